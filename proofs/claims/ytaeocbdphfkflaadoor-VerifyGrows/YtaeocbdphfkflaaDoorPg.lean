/- SHA, as a function of bytes: the words of a round. -/
import Derived.Test.YtaeocbdphfkflaaDoorBpl
import Derived.Laws.BitsAllLaws
import Derived.Test.YtaeocbdphfkflaaDoorAg
import Derived.BigRegion
import Derived.Deep.RegionHeld3
import Derived.Laws.CopyOwn
namespace Go.Proofs.YtaeocbdphfkflaaDoor
open Go.RowKit
set_option linter.unusedVariables false
set_option linter.unusedSimpArgs false

/-- What the walk shall not use. -/
def Hid (p : Prop) : Prop := p
theorem Hid.out {p : Prop} (h : Hid p) : p := h

/-- Turned right. -/
def rr (x : Nat) (n : Int) : Nat := x / 2 ^ n.toNat ||| x * 2 ^ (32 - n.toNat) % 4294967296
def ad (x y : Nat) : Nat := (x + y) % 4294967296
def xo (x y : Nat) : Nat := x ^^^ y
def an (x y : Nat) : Nat := x &&& y
def no (x : Nat) : Nat := 4294967295 - x
def S1 (e : Nat) : Nat := xo (xo (rr e 6) (rr e 11)) (rr e 25)
def S0 (a : Nat) : Nat := xo (xo (rr a 2) (rr a 13)) (rr a 22)
def s0 (x : Nat) : Nat := xo (xo (rr x 7) (rr x 18)) (x / 8)
def s1 (x : Nat) : Nat := xo (xo (rr x 17) (rr x 19)) (x / 1024)
def ch (e f g : Nat) : Nat := xo (an e f) (an (no e) g)
def mj (a b c : Nat) : Nat := xo (xo (an a b) (an a c)) (an b c)
/-- A word. -/
abbrev Wd (x : Nat) : Prop := x < 4294967296
theorem rr_lt (x : Nat) (n : Int) (h : Wd x) : Wd (rr x n) := by
  have h1 : x / 2 ^ n.toNat < 2 ^ 32 := Nat.lt_of_le_of_lt (Nat.div_le_self _ _) h
  have h2 : x * 2 ^ (32 - n.toNat) % 4294967296 < 2 ^ 32 := Nat.mod_lt _ (by decide)
  exact Nat.or_lt_two_pow h1 h2
theorem ad_lt (x y : Nat) : Wd (ad x y) := Nat.mod_lt _ (by decide)
theorem xo_lt (x y : Nat) (hx : Wd x) (hy : Wd y) : Wd (xo x y) := Nat.xor_lt_two_pow (n := 32) hx hy
theorem an_lt (x y : Nat) (hy : Wd y) : Wd (an x y) := Nat.and_lt_two_pow (n := 32) _ hy
theorem no_lt (x : Nat) : Wd (no x) := by unfold no Wd; omega
theorem S1_lt (x : Nat) (h : Wd x) : Wd (S1 x) := xo_lt _ _ (xo_lt _ _ (rr_lt _ _ h) (rr_lt _ _ h)) (rr_lt _ _ h)
theorem S0_lt (x : Nat) (h : Wd x) : Wd (S0 x) := xo_lt _ _ (xo_lt _ _ (rr_lt _ _ h) (rr_lt _ _ h)) (rr_lt _ _ h)
theorem dv_lt (x k : Nat) (h : Wd x) : Wd (x / k) := Nat.lt_of_le_of_lt (Nat.div_le_self _ _) h
theorem s1_lt (x : Nat) (h : Wd x) : Wd (s1 x) := xo_lt _ _ (xo_lt _ _ (rr_lt _ _ h) (rr_lt _ _ h)) (dv_lt _ _ h)
theorem s0_lt (x : Nat) (h : Wd x) : Wd (s0 x) := xo_lt _ _ (xo_lt _ _ (rr_lt _ _ h) (rr_lt _ _ h)) (dv_lt _ _ h)
theorem ch_lt (e f g : Nat) (hf : Wd f) (hg : Wd g) : Wd (ch e f g) := xo_lt _ _ (an_lt _ _ hf) (an_lt _ _ hg)
theorem mj_lt (a b c : Nat) (hb : Wd b) (hc : Wd c) : Wd (mj a b c) := xo_lt _ _ (xo_lt _ _ (an_lt _ _ hb) (an_lt _ _ hc)) (an_lt _ _ hc)
/- The same, as the model has them. -/
theorem b_xo (x y : Nat) (hx : Wd x) (hy : Wd y) : bits .xor .u32 (x : Int) (y : Int) = ((xo x y : Nat) : Int) := u32_xor_nat x y hx hy
theorem b_an (x y : Nat) (hx : Wd x) (hy : Wd y) : bits .and .u32 (x : Int) (y : Int) = ((an x y : Nat) : Int) := u32_and_nat x y hx hy
theorem no_xor (x : Nat) (hx : Wd x) : 4294967295 ^^^ x = no x := by
  have h1 := congrArg BitVec.toNat (BitVec.allOnes_xor (x := BitVec.ofNat 32 x))
  rw [BitVec.toNat_xor, BitVec.toNat_not, BitVec.toNat_ofNat, Nat.mod_eq_of_lt hx, BitVec.toNat_allOnes] at h1
  exact h1
theorem b_no (x : Nat) (hx : Wd x) : bits .xor .u32 4294967295 (x : Int) = ((no x : Nat) : Int) := by
  have := u32_xor_nat 4294967295 x (by decide) hx
  rw [no_xor x hx] at this
  exact this
theorem m_no (x : Nat) (hx : Wd x) : bits .xor .u32 IntKind.u32.max (x : Int) = ((no x : Nat) : Int) := b_no x hx
theorem i_no (x : Nat) (hx : Wd x) : bits .xor .u32 (if IntKind.u32.signed = true then -1 else IntKind.u32.max) (x : Int) = ((no x : Nat) : Int) := b_no x hx
theorem b_ad (x y : Nat) : ((x : Int) + (y : Int)) % 4294967296 = ((ad x y : Nat) : Int) := by unfold ad; omega
theorem w_ad (x y : Nat) : IntKind.u32.wrap ((x : Int) + (y : Int)) = ((ad x y : Nat) : Int) := by rw [IntKind.wrap_u32']; exact b_ad x y

/-- By how much the words are turned. -/
abbrev Rn (n : Int) : Prop := n = 2 ∨ n = 6 ∨ n = 7 ∨ n = 11 ∨ n = 13 ∨ n = 17 ∨ n = 18 ∨ n = 19 ∨ n = 22 ∨ n = 25
theorem or_rr (x : Nat) (p q m : Nat) (n : Int) (hx : Wd x) (hn : n.toNat = m) (hp : 2 ^ m = p) (hq : 2 ^ (32 - m) = q) : bits .or .u32 ((x : Int) * (q : Nat) % 4294967296) ((x : Int) / (p : Nat)) = ((rr x n : Nat) : Int) := by
  have h1 : ((x : Int) * (q : Nat) % 4294967296) = ((x * q % 4294967296 : Nat) : Int) := by simp
  have h2 : ((x : Int) / (p : Nat)) = ((x / p : Nat) : Int) := by simp
  rw [h1, h2, u32_or_nat _ _ (Nat.mod_lt _ (by decide)) (dv_lt _ _ hx)]
  unfold rr
  rw [hn, hp, hq, Nat.or_comm]
theorem or_rr2 (x : Nat) (p q m : Nat) (n : Int) (hx : Wd x) (hn : n.toNat = m) (hp : 2 ^ m = p) (hq : 2 ^ (32 - m) = q) : bits .or .u32 ((x : Int) / (p : Nat)) ((x : Int) * (q : Nat) % 4294967296) = ((rr x n : Nat) : Int) := by
  have h1 : ((x : Int) * (q : Nat) % 4294967296) = ((x * q % 4294967296 : Nat) : Int) := by simp
  have h2 : ((x : Int) / (p : Nat)) = ((x / p : Nat) : Int) := by simp
  rw [h1, h2, u32_or_nat _ _ (dv_lt _ _ hx) (Nat.mod_lt _ (by decide))]
  unfold rr
  rw [hn, hp, hq]

set_option maxRecDepth 100000 in
set_option maxHeartbeats 1000000 in
theorem rot_any (x : Nat) (n : Int) (hx : Wd x) (hn : Rn n) (w : World) :
    Calls Tryd.prog 75 #[.int .u32 (x : Nat), .int .i64 (-n)] w fun e w' => e = .returned (.int .u32 ((rr x n : Nat) : Int)) ∧ w' = w := by
  go_enter Tryd.func75, Tryd.ntmps75
  rcases hn with rfl | rfl | rfl | rfl | rfl | rfl | rfl | rfl | rfl | rfl
  · have ea : bits .and .u64 (IntKind.u64.wrap (-2)) 31 = 30 := by decide +kernel
    go_wp2
    go_ret
    exact ⟨congrArg (fun z => Ending.returned (.int .u32 z)) (or_rr x 4 1073741824 2 2 hx rfl rfl rfl), rfl⟩
  · have ea : bits .and .u64 (IntKind.u64.wrap (-6)) 31 = 26 := by decide +kernel
    go_wp2
    go_ret
    exact ⟨congrArg (fun z => Ending.returned (.int .u32 z)) (or_rr x 64 67108864 6 6 hx rfl rfl rfl), rfl⟩
  · have ea : bits .and .u64 (IntKind.u64.wrap (-7)) 31 = 25 := by decide +kernel
    go_wp2
    go_ret
    exact ⟨congrArg (fun z => Ending.returned (.int .u32 z)) (or_rr x 128 33554432 7 7 hx rfl rfl rfl), rfl⟩
  · have ea : bits .and .u64 (IntKind.u64.wrap (-11)) 31 = 21 := by decide +kernel
    go_wp2
    go_ret
    exact ⟨congrArg (fun z => Ending.returned (.int .u32 z)) (or_rr x 2048 2097152 11 11 hx rfl rfl rfl), rfl⟩
  · have ea : bits .and .u64 (IntKind.u64.wrap (-13)) 31 = 19 := by decide +kernel
    go_wp2
    go_ret
    exact ⟨congrArg (fun z => Ending.returned (.int .u32 z)) (or_rr x 8192 524288 13 13 hx rfl rfl rfl), rfl⟩
  · have ea : bits .and .u64 (IntKind.u64.wrap (-17)) 31 = 15 := by decide +kernel
    go_wp2
    go_ret
    exact ⟨congrArg (fun z => Ending.returned (.int .u32 z)) (or_rr x 131072 32768 17 17 hx rfl rfl rfl), rfl⟩
  · have ea : bits .and .u64 (IntKind.u64.wrap (-18)) 31 = 14 := by decide +kernel
    go_wp2
    go_ret
    exact ⟨congrArg (fun z => Ending.returned (.int .u32 z)) (or_rr x 262144 16384 18 18 hx rfl rfl rfl), rfl⟩
  · have ea : bits .and .u64 (IntKind.u64.wrap (-19)) 31 = 13 := by decide +kernel
    go_wp2
    go_ret
    exact ⟨congrArg (fun z => Ending.returned (.int .u32 z)) (or_rr x 524288 8192 19 19 hx rfl rfl rfl), rfl⟩
  · have ea : bits .and .u64 (IntKind.u64.wrap (-22)) 31 = 10 := by decide +kernel
    go_wp2
    go_ret
    exact ⟨congrArg (fun z => Ending.returned (.int .u32 z)) (or_rr x 4194304 1024 22 22 hx rfl rfl rfl), rfl⟩
  · have ea : bits .and .u64 (IntKind.u64.wrap (-25)) 31 = 7 := by decide +kernel
    go_wp2
    go_ret
    exact ⟨congrArg (fun z => Ending.returned (.int .u32 z)) (or_rr x 33554432 128 25 25 hx rfl rfl rfl), rfl⟩
set_option maxRecDepth 100000 in
set_option maxHeartbeats 1000000 in
theorem right_any (x : Nat) (n : Int) (hx : Wd x) (hn : Rn n) (w : World) :
    Calls Tryd.prog 74 #[.int .u32 (x : Nat), .int .i64 n] w fun e w' => e = .returned (.int .u32 ((rr x n : Nat) : Int)) ∧ w' = w := by
  have q := rot_any x n hx hn w
  have h0 : -9223372036854775808 ≤ -n ∧ -n ≤ 9223372036854775807 := by rcases hn with rfl | rfl | rfl | rfl | rfl | rfl | rfl | rfl | rfl | rfl <;> decide
  clear hn
  go_enter Tryd.func74, Tryd.ntmps74
  go_wp2_with fail
  refine q.mono ?_
  rintro e w' ⟨rfl, rfl⟩
  go_wp2
  go_ret
  exact ⟨rfl, rfl⟩
set_option maxRecDepth 100000 in
set_option maxHeartbeats 1000000 in
theorem turn_any (x : Nat) (n : Int) (hx : Wd x) (hn : Rn n) (w : World) :
    Calls Tryd.prog 73 #[.int .u32 (x : Nat), .int .i64 n] w fun e w' => e = .returned (.int .u32 ((rr x n : Nat) : Int)) ∧ ∃ k, w' = w.drewN k := by
  go_enter Tryd.func73, Tryd.ntmps73
  rcases hn with rfl | rfl | rfl | rfl | rfl | rfl | rfl | rfl | rfl | rfl
  · go_wp2
    go_quiet (fail)
    go_wp2
    go_ret
    exact ⟨congrArg (fun z => Ending.returned (.int .u32 z)) (or_rr2 x 4 1073741824 2 2 hx rfl rfl rfl), _, rfl⟩
  · go_wp2
    go_quiet (fail)
    go_wp2
    go_ret
    exact ⟨congrArg (fun z => Ending.returned (.int .u32 z)) (or_rr2 x 64 67108864 6 6 hx rfl rfl rfl), _, rfl⟩
  · go_wp2
    go_quiet (fail)
    go_wp2
    go_ret
    exact ⟨congrArg (fun z => Ending.returned (.int .u32 z)) (or_rr2 x 128 33554432 7 7 hx rfl rfl rfl), _, rfl⟩
  · go_wp2
    go_quiet (fail)
    go_wp2
    go_ret
    exact ⟨congrArg (fun z => Ending.returned (.int .u32 z)) (or_rr2 x 2048 2097152 11 11 hx rfl rfl rfl), _, rfl⟩
  · go_wp2
    go_quiet (fail)
    go_wp2
    go_ret
    exact ⟨congrArg (fun z => Ending.returned (.int .u32 z)) (or_rr2 x 8192 524288 13 13 hx rfl rfl rfl), _, rfl⟩
  · go_wp2
    go_quiet (fail)
    go_wp2
    go_ret
    exact ⟨congrArg (fun z => Ending.returned (.int .u32 z)) (or_rr2 x 131072 32768 17 17 hx rfl rfl rfl), _, rfl⟩
  · go_wp2
    go_quiet (fail)
    go_wp2
    go_ret
    exact ⟨congrArg (fun z => Ending.returned (.int .u32 z)) (or_rr2 x 262144 16384 18 18 hx rfl rfl rfl), _, rfl⟩
  · go_wp2
    go_quiet (fail)
    go_wp2
    go_ret
    exact ⟨congrArg (fun z => Ending.returned (.int .u32 z)) (or_rr2 x 524288 8192 19 19 hx rfl rfl rfl), _, rfl⟩
  · go_wp2
    go_quiet (fail)
    go_wp2
    go_ret
    exact ⟨congrArg (fun z => Ending.returned (.int .u32 z)) (or_rr2 x 4194304 1024 22 22 hx rfl rfl rfl), _, rfl⟩
  · go_wp2
    go_quiet (fail)
    go_wp2
    go_ret
    exact ⟨congrArg (fun z => Ending.returned (.int .u32 z)) (or_rr2 x 33554432 128 25 25 hx rfl rfl rfl), _, rfl⟩
end Go.Proofs.YtaeocbdphfkflaaDoor
namespace Go.Proofs.YtaeocbdphfkflaaDoor
open Go.RowKit
set_option linter.unusedVariables false
set_option linter.unusedSimpArgs false

/-- Eight words. -/
structure V8 where
  (a b c d e f g h : Nat)
structure V8.ok (s : V8) : Prop where
  a : Wd s.a
  b : Wd s.b
  c : Wd s.c
  d : Wd s.d
  e : Wd s.e
  f : Wd s.f
  g : Wd s.g
  h : Wd s.h
def tw (k w : Nat) (s : V8) : Nat := ad (ad (ad (ad s.h (S1 s.e)) (ch s.e s.f s.g)) k) w
def uw (s : V8) : Nat := ad (S0 s.a) (mj s.a s.b s.c)
def step (k w : Nat) (s : V8) : V8 := ⟨ad (tw k w s) (uw s), s.a, s.b, s.c, ad s.d (tw k w s), s.e, s.f, s.g⟩
def rounds (K W : Nat → Nat) (s : V8) : Nat → V8
  | 0 => s
  | n + 1 => step (K n) (W n) (rounds K W s n)
def add8 (s t : V8) : V8 := ⟨ad s.a t.a, ad s.b t.b, ad s.c t.c, ad s.d t.d, ad s.e t.e, ad s.f t.f, ad s.g t.g, ad s.h t.h⟩
theorem step_ok (k w : Nat) (s : V8) (h : s.ok) : (step k w s).ok := ⟨ad_lt _ _, h.a, h.b, h.c, ad_lt _ _, h.e, h.f, h.g⟩
theorem rounds_ok (K W : Nat → Nat) (s : V8) (h : s.ok) : ∀ n, (rounds K W s n).ok
  | 0 => h
  | n + 1 => step_ok _ _ _ (rounds_ok K W s h n)
theorem add8_ok (s t : V8) : (add8 s t).ok := ⟨ad_lt _ _, ad_lt _ _, ad_lt _ _, ad_lt _ _, ad_lt _ _, ad_lt _ _, ad_lt _ _, ad_lt _ _⟩
/-- The words as values. -/
abbrev u32v (x : Nat) : Value := .int .u32 (x : Int)
def vals (s : V8) : Array Value := #[u32v s.a, u32v s.b, u32v s.c, u32v s.d, u32v s.e, u32v s.f, u32v s.g, u32v s.h]
def z8 : Array Value := #[u32v 0, u32v 0, u32v 0, u32v 0, u32v 0, u32v 0, u32v 0, u32v 0]
def Kl : List Nat := [1116352408, 1899447441, 3049323471, 3921009573, 961987163, 1508970993, 2453635748, 2870763221, 3624381080, 310598401, 607225278, 1426881987, 1925078388, 2162078206, 2614888103, 3248222580, 3835390401, 4022224774, 264347078, 604807628, 770255983, 1249150122, 1555081692, 1996064986, 2554220882, 2821834349, 2952996808, 3210313671, 3336571891, 3584528711, 113926993, 338241895, 666307205, 773529912, 1294757372, 1396182291, 1695183700, 1986661051, 2177026350, 2456956037, 2730485921, 2820302411, 3259730800, 3345764771, 3516065817, 3600352804, 4094571909, 275423344, 430227734, 506948616, 659060556, 883997877, 958139571, 1322822218, 1537002063, 1747873779, 1955562222, 2024104815, 2227730452, 2361852424, 2428436474, 2756734187, 3204031479, 3329325298]
def Kc (i : Nat) : Nat := Kl.getD i 0
theorem Kc_lt (i : Nat) : Wd (Kc i) := by
  unfold Kc
  rcases Nat.lt_or_ge i Kl.length with h | h
  · rw [List.getD_eq_getElem?_getD, List.getElem?_eq_getElem h]
    have : ∀ x ∈ Kl, x < 4294967296 := by decide +kernel
    exact this _ (List.getElem_mem h)
  · rw [List.getD_eq_getElem?_getD, List.getElem?_eq_none h]; decide
/-- The constants lie where the program lays them. -/
def Ks (w : World) : Prop := ∀ i, i < 64 → w.cell? ⟨18, i, none⟩ = some (u32v (Kc i))
theorem Ks.nw {w w' : World} (h : Ks w) (k : Nw w w') : Ks w' := fun i hi => k.cellOf (h i hi)

set_option maxRecDepth 100000 in
set_option maxHeartbeats 4000000 in
theorem mixed_any (s : V8) (hs : s.ok) (wb : Nat) (W : Nat → Nat) (hW : ∀ i, i < 64 → Wd (W i)) (w : World) (hw : ∀ i, i < 64 → w.cell? ⟨wb, i, none⟩ = some (u32v (W i))) (hK : Ks w) :
    Calls Tryd.prog 71 #[.agg (vals s), .pointer (some ⟨wb, 0, none⟩)] w fun e w' => e = .returned (.agg (vals (add8 s (rounds Kc W s 64)))) ∧ Nw w w' := by
  obtain ⟨R, hR⟩ : ∃ R, R = add8 s (rounds Kc W s 64) := ⟨_, rfl⟩
  rw [← hR]
  have HR : Hid (R = add8 s (rounds Kc W s 64)) := hR
  clear hR
  obtain ⟨RV, hRV⟩ : ∃ x, x = vals R := ⟨_, rfl⟩
  rw [← hRV]
  have HRV : Hid (RV = vals R) := hRV
  clear hRV
  unfold vals
  have HW : Hid (∀ i, i < 64 → Wd (W i)) := hW
  have Hw : Hid (∀ i, i < 64 → w.cell? ⟨wb, i, none⟩ = some (u32v (W i))) := hw
  have HK : Hid (Ks w) := hK
  clear hW hw hK
  go_enter Tryd.func71, Tryd.ntmps71
  go_wp2
  go_quiet (fail)
  go_wp2
  go_quiet (fail)
  go_wp2
  go_loopw [5, 6, 7, 8, 9, 10, 11, 12, 32] (fun a b c d e f g h i wr => ∃ k : Nat, k ≤ 64 ∧ i = .int .i64 k ∧ a = u32v (rounds Kc W s k).a ∧ b = u32v (rounds Kc W s k).b ∧ c = u32v (rounds Kc W s k).c ∧ d = u32v (rounds Kc W s k).d ∧ e = u32v (rounds Kc W s k).e ∧ f = u32v (rounds Kc W s k).f ∧ g = u32v (rounds Kc W s k).g ∧ h = u32v (rounds Kc W s k).h ∧ Nw w wr ∧ wr.heap[w.heap.size]? = some (.cells #[u32v s.a, u32v s.b, u32v s.c, u32v s.d, u32v s.e, u32v s.f, u32v s.g, u32v s.h] 99 (0, 0)) ∧ wr.heap[w.heap.size + 1]? = some (.cells z8 99 (0, 0))) (fun _ _ _ _ _ _ _ _ i _ => 64 - (intOf i).toNat)
  case atStart =>
    refine ⟨0, by omega, rfl, rfl, rfl, rfl, rfl, rfl, rfl, rfl, rfl, (((Fr.refl _ _).alloc _).alloc _).drewN _ |>.drewN _, ?_, ?_⟩
    · simp only [World.heap_drewN]
      exact (Below.heap_alloc _ _ _ (by simp)).trans (heap_new w _)
    · simp only [World.heap_drewN]
      have := heap_new (w.alloc (.cells #[u32v s.a, u32v s.b, u32v s.c, u32v s.d, u32v s.e, u32v s.f, u32v s.g, u32v s.h] 99)) (.cells z8 99)
      rw [World.size_alloc] at this
      exact this
  case round =>
    obtain ⟨k, hk, rfl, rfl, rfl, rfl, rfl, rfl, rfl, rfl, rfl, hnw, hbx, hb4⟩ := hrel
    by_cases hlt : k < 64
    · have hok := rounds_ok Kc W s hs k
      have HS : Hid (rounds Kc W s (k + 1) = step (Kc k) (W k) (rounds Kc W s k)) := rfl
      generalize hT : rounds Kc W s k = T at hok HS
      clear hT
      obtain ⟨a, b, c, d, e, f, g, p⟩ := T
      obtain ⟨ha, hb, hc, hd, he, hf, hg, hp⟩ := hok
      dsimp only at ha hb hc hd he hf hg hp ⊢
      have hcw := hnw.cellOf (Hw.out k hlt)
      have hck := hnw.cellOf (HK.out k hlt)
      have hwk : Wd (W k) := HW.out k hlt
      have hkk := Kc_lt k
      generalize W k = wk at hcw hwk HS
      generalize Kc k = kk at hck hkk HS
      have hki : (k : Int) < 64 := by omega
      have hk0 : (0 : Int) ≤ (k : Int) := by omega
      have x1 := b_xo (rr e 6) (rr e 11) (rr_lt _ _ he) (rr_lt _ _ he)
      have x2 : bits .xor .u32 ((xo (rr e 6) (rr e 11) : Nat) : Int) ((rr e 25 : Nat) : Int) = ((S1 e : Nat) : Int) := b_xo _ _ (xo_lt _ _ (rr_lt _ _ he) (rr_lt _ _ he)) (rr_lt _ _ he)
      have x3 := b_an e f he hf
      have x4 := i_no e he
      have x4' := m_no e he
      have x5 := b_an (no e) g (no_lt _) hg
      have x6 : bits .xor .u32 ((an e f : Nat) : Int) ((an (no e) g : Nat) : Int) = ((ch e f g : Nat) : Int) := b_xo _ _ (an_lt _ _ hf) (an_lt _ _ hg)
      have a1 := b_ad p (S1 e)
      have a2 := b_ad (ad p (S1 e)) (ch e f g)
      have a3 := b_ad (ad (ad p (S1 e)) (ch e f g)) kk
      have a4 := b_ad (ad (ad (ad p (S1 e)) (ch e f g)) kk) wk
      have b1 := w_ad p (S1 e)
      have b2 := w_ad (ad p (S1 e)) (ch e f g)
      have b3 := w_ad (ad (ad p (S1 e)) (ch e f g)) kk
      have b4 := w_ad (ad (ad (ad p (S1 e)) (ch e f g)) kk) wk
      have y1 := b_xo (rr a 2) (rr a 13) (rr_lt _ _ ha) (rr_lt _ _ ha)
      have y2 : bits .xor .u32 ((xo (rr a 2) (rr a 13) : Nat) : Int) ((rr a 22 : Nat) : Int) = ((S0 a : Nat) : Int) := b_xo _ _ (xo_lt _ _ (rr_lt _ _ ha) (rr_lt _ _ ha)) (rr_lt _ _ ha)
      have y3 := b_an a b ha hb
      have y4 := b_an a c ha hc
      have y5 := b_an b c hb hc
      have y6 := b_xo (an a b) (an a c) (an_lt _ _ hb) (an_lt _ _ hc)
      have y7 : bits .xor .u32 ((xo (an a b) (an a c) : Nat) : Int) ((an b c : Nat) : Int) = ((mj a b c : Nat) : Int) := b_xo _ _ (xo_lt _ _ (an_lt _ _ hb) (an_lt _ _ hc)) (an_lt _ _ hc)
      have a5 := b_ad (S0 a) (mj a b c)
      go_wp2
      go_quiet ((go_at_call 74; refine Calls.quiet_of_same (right_any _ _ he (by decide) _)))
      have a6 := b_ad (tw kk wk ⟨a, b, c, d, e, f, g, p⟩) (uw ⟨a, b, c, d, e, f, g, p⟩)
      have a7 := b_ad d (tw kk wk ⟨a, b, c, d, e, f, g, p⟩)
      go_wp2_with (go_at_call 74; refine (right_any _ _ ha (by decide) _).mono ?_; rintro e1 w1 ⟨rfl, rfl⟩)
      refine ⟨⟨k + 1, by omega, by go_num, ?_⟩, by simp [intOf]; omega⟩
      rw [HS.out]
      exact ⟨rfl, rfl, rfl, rfl, rfl, rfl, rfl, rfl, hnw.drewN _, hbx, hb4⟩
    · obtain rfl : k = 64 := by omega
      generalize hT : rounds Kc W s 64 = T at HR
      clear hT
      obtain ⟨a, b, c, d, e, f, g, p⟩ := T
      obtain ⟨a0, b0, c0, d0, e0, f0, g0, p0⟩ := s
      dsimp only at hbx ⊢
      have r0 := cell_of hbx 0
      have r1 := cell_of hbx 1
      have r2 := cell_of hbx 2
      have r3 := cell_of hbx 3
      have r4 := cell_of hbx 4
      have r5 := cell_of hbx 5
      have r6 := cell_of hbx 6
      have r7 := cell_of hbx 7
      simp at r0 r1 r2 r3 r4 r5 r6 r7
      have q0 := b_ad a0 a
      have q1 := b_ad b0 b
      have q2 := b_ad c0 c
      have q3 := b_ad d0 d
      have q4 := b_ad e0 e
      have q5 := b_ad f0 f
      have q6 := b_ad g0 g
      have q7 := b_ad p0 p
      go_wp2_with (refine wp_store_agg rfl (.tmp 4) (.tmp 129) 99 8 rfl Tryd.sizeOf99 (w.heap.size + 1) 0 rfl z8 99 hb4 _ rfl rfl (by simp [Value.oneCell']) (by decide) _ rfl ?_; intro w4 j4 f4 z4)
      refine bodyPost_ret (results_cell Tryd.results71 Tryd.isAgg99 Tryd.sizeOf99 rfl j4 rfl) rfl ⟨?_, hnw.trans f4 (fun k hk q => by omega)⟩
      rw [HRV.out, HR.out]
      rfl
end Go.Proofs.YtaeocbdphfkflaaDoor
namespace Go.Proofs.YtaeocbdphfkflaaDoor
open Go.RowKit
set_option linter.unusedVariables false
set_option linter.unusedSimpArgs false

/-- Bytes as a word. -/
def wd (a b c d : Nat) : Nat := a * 16777216 + b * 65536 + c * 256 + d
def nxt (l : List Nat) (t : Nat) : Nat := ad (ad (ad (l.getD (t - 16) 0) (s0 (l.getD (t - 15) 0))) (l.getD (t - 7) 0)) (s1 (l.getD (t - 2) 0))
/-- The first words of a block. -/
def ws (B : Nat → Nat) : Nat → List Nat
  | 0 => []
  | t + 1 => ws B t ++ [if t < 16 then wd (B (4 * t)) (B (4 * t + 1)) (B (4 * t + 2)) (B (4 * t + 3)) else nxt (ws B t) t]
def Wf (B : Nat → Nat) (i : Nat) : Nat := (ws B 64).getD i 0
theorem ws_len (B : Nat → Nat) : ∀ t, (ws B t).length = t
  | 0 => rfl
  | t + 1 => by rw [ws, List.length_append, ws_len B t]; rfl
theorem ws_get (B : Nat → Nat) (i t : Nat) (h : i < t) : ∀ m, (ws B (t + m)).getD i 0 = (ws B t).getD i 0
  | 0 => rfl
  | m + 1 => by
    rw [← Nat.add_assoc, ws, List.getD_eq_getElem?_getD, List.getElem?_append_left (by rw [ws_len]; omega), ← List.getD_eq_getElem?_getD]
    exact ws_get B i t h m
theorem ws_at (B : Nat → Nat) (i t : Nat) (h : i < t) (ht : t ≤ 64) : (ws B t).getD i 0 = Wf B i := by
  have := ws_get B i t h (64 - t)
  rw [show t + (64 - t) = 64 by omega] at this
  exact this.symm
theorem Wf_eq (B : Nat → Nat) (t : Nat) (ht : t < 64) : Wf B t = if t < 16 then wd (B (4 * t)) (B (4 * t + 1)) (B (4 * t + 2)) (B (4 * t + 3)) else nxt (ws B t) t := by
  rw [← ws_at B t (t + 1) (by omega) (by omega), ws, List.getD_eq_getElem?_getD, List.getElem?_append_right (by rw [ws_len]; omega), ws_len, Nat.sub_self]
  rfl
theorem Wf_lo (B : Nat → Nat) (t : Nat) (ht : t < 16) : Wf B t = wd (B (4 * t)) (B (4 * t + 1)) (B (4 * t + 2)) (B (4 * t + 3)) := by
  rw [Wf_eq B t (by omega), if_pos ht]
theorem Wf_hi (B : Nat → Nat) (t : Nat) (h : 16 ≤ t) (ht : t < 64) : Wf B t = ad (ad (ad (Wf B (t - 16)) (s0 (Wf B (t - 15)))) (Wf B (t - 7))) (s1 (Wf B (t - 2))) := by
  rw [Wf_eq B t ht, if_neg (by omega), nxt, ws_at B _ t (by omega) (by omega), ws_at B _ t (by omega) (by omega), ws_at B _ t (by omega) (by omega), ws_at B _ t (by omega) (by omega)]
theorem wd_lt (a b c d : Nat) (ha : a < 256) (hb : b < 256) (hc : c < 256) (hd : d < 256) : Wd (wd a b c d) := by unfold wd Wd; omega
theorem Wf_lt (B : Nat → Nat) (hB : ∀ i, i < 64 → B i < 256) (t : Nat) (ht : t < 64) : Wd (Wf B t) := by
  rcases Nat.lt_or_ge t 16 with h | h
  · rw [Wf_lo B t h]; exact wd_lt _ _ _ _ (hB _ (by omega)) (hB _ (by omega)) (hB _ (by omega)) (hB _ (by omega))
  · rw [Wf_hi B t h ht]; exact ad_lt _ _
/-- The array of words, the first t of them made. -/
def wcs (B : Nat → Nat) (t : Nat) : Array Value := Array.ofFn (n := 64) fun i => u32v (if i.val < t then Wf B i.val else 0)
theorem wcs_size (B : Nat → Nat) (t : Nat) : (wcs B t).size = 64 := by simp [wcs]
theorem wcs_get (B : Nat → Nat) (t i : Nat) (hi : i < t) (ht : t ≤ 64) : (wcs B t)[i]? = some (u32v (Wf B i)) := by
  rw [wcs, Array.getElem?_ofFn, dif_pos (by omega), if_pos hi]
theorem wcs_set (B : Nat → Nat) (t : Nat) (ht : t < 64) : (wcs B t).setIfInBounds t (u32v (Wf B t)) = wcs B (t + 1) := by
  apply Array.ext
  · simp [wcs]
  · intro i h1 h2
    rw [Array.getElem_setIfInBounds (by simpa using h1)]
    simp only [wcs, Array.getElem_ofFn]
    by_cases h : t = i
    · subst h; simp
    · rw [if_neg h]
      have : (i < t + 1) = (i < t) := by apply propext; omega
      simp only [this]
def z64 : Array Value := Array.replicate 64 (u32v 0)
theorem wcs_0 (B : Nat → Nat) : wcs B 0 = z64 := by
  apply Array.ext
  · simp [wcs, z64]
  · intro i h1 h2
    simp [wcs, z64]

theorem wcs_one (B : Nat → Nat) (t : Nat) : ∀ u ∈ (wcs B t).toList, u.oneCell' = true := by
  intro u hu
  have hu2 : u ∈ wcs B t := by simpa using hu
  obtain ⟨i, hi, rfl⟩ := Array.mem_iff_getElem.1 hu2
  simp [wcs, Value.oneCell']
theorem z64_drop : z64.toList.drop (0 + 64) = [] := by rw [z64]; simp
theorem len64 : Tryd.prog.arrayLen 100 = 64 := by kernel_rfl
theorem elem64 : Tryd.prog.elem 100 = 5 := by kernel_rfl
theorem slice64 (bb o l : Nat) (hl : l < 64) (w : World) : (Instr.sliceAt 100 (.pointer (some ⟨bb, o, none⟩)) (some (.int .i64 (l : Int))) none none).run Tryd.prog w = .ok (.slice (some ⟨bb, o + l, none⟩) (64 - l) (64 - l)) w := by
  rw [run_sliceAt_array_l w _ _ (by rw [len64, elem64]; exact Tryd.underlying100) .i64 (l : Int) (by omega) (by rw [len64]; omega), elem64, Tryd.sizeOf5 w, len64]
  simp only [Result.andThen_ok, slicedAt]
  rw [if_neg (by omega)]
  simp [addO]
/-- Four bytes put together, as the program does. -/
theorem wd_or (a b c d : Nat) (ha : a < 256) (hb : b < 256) (hc : c < 256) (hd : d < 256) :
    bits .or .u32 ((a * 16777216 : Nat) : Int) ((b * 65536 : Nat) : Int) = ((a * 16777216 + b * 65536 : Nat) : Int) ∧
    bits .or .u32 ((a * 16777216 + b * 65536 : Nat) : Int) ((c * 256 : Nat) : Int) = ((a * 16777216 + b * 65536 + c * 256 : Nat) : Int) ∧
    bits .or .u32 ((a * 16777216 + b * 65536 + c * 256 : Nat) : Int) (d : Int) = ((wd a b c d : Nat) : Int) := by
  have or32 : ∀ (m x y : Nat), y < 2 ^ m → 2 ^ m * x + y < 4294967296 → bits .or .u32 ((2 ^ m * x : Nat) : Int) (y : Int) = ((2 ^ m * x + y : Nat) : Int) := fun m x y hy hs => by
    rw [u32_or_nat _ _ (by omega) (by omega), Nat.two_pow_add_eq_or_of_lt hy]
  refine ⟨?_, ?_, ?_⟩
  · have := or32 24 a (b * 65536) (by omega) (by omega)
    rw [show 2 ^ 24 * a = a * 16777216 by omega] at this
    exact this
  · have := or32 16 (a * 256 + b) (c * 256) (by omega) (by omega)
    rw [show 2 ^ 16 * (a * 256 + b) = a * 16777216 + b * 65536 by omega] at this
    exact this
  · have := or32 8 (a * 65536 + b * 256 + c) d (by omega) (by omega)
    rw [show 2 ^ 8 * (a * 65536 + b * 256 + c) = a * 16777216 + b * 65536 + c * 256 by omega] at this
    exact this

set_option maxRecDepth 100000 in
set_option maxHeartbeats 1000000 in
theorem spread_any (bb : Nat) (B : Nat → Nat) (hB : ∀ i, i < 64 → B i < 256) (w : World) (hb : ∀ i, i < 64 → w.cell? ⟨bb, 9 + i, none⟩ = some (.int .u8 (B i : Nat))) :
    Calls Tryd.prog 70 #[.pointer (some ⟨bb, 9, none⟩)] w fun e w' => e = .returned (.agg (wcs B 64)) ∧ Nw w w' := by
  have HB : Hid (∀ i, i < 64 → B i < 256) := hB
  have Hb : Hid (∀ i, i < 64 → w.cell? ⟨bb, 9 + i, none⟩ = some (.int .u8 (B i : Nat))) := hb
  clear hB hb
  go_enter Tryd.func70, Tryd.ntmps70
  go_wp2
  go_loopw [9] (fun i wr => ∃ k : Nat, k ≤ 16 ∧ i = .int .i64 k ∧ Nw w wr ∧ wr.heap[w.heap.size]? = some (.cells z64 126 (0, 0)) ∧ wr.heap[w.heap.size + 1]? = some (.cells (wcs B k) 126 (0, 0))) (fun i _ => 16 - (intOf i).toNat)
  case atStart =>
    refine ⟨0, by omega, rfl, (((Fr.refl _ _).alloc _).alloc _), ?_, ?_⟩
    · exact ((Below.heap_alloc _ _ _ (by simp)).trans (heap_new w _)).trans (by kernel_rfl)
    · rw [wcs_0]
      refine (heap_next w _ _).trans (by kernel_rfl)
  case round =>
    obtain ⟨k, hk, rfl, hnw, hz, hc⟩ := hrel
    by_cases hlt : k < 16
    · have hki : (k : Int) < 16 := by omega
      have hk64 : (k : Int) < 64 := by omega
      have hsl := slice64 bb 9 (4 * k) (by omega) wr
      rw [show ((4 * k : Nat) : Int) = 4 * (k : Int) by omega] at hsl
      have hWl : Hid (Wf B k = wd (B (4 * k)) (B (4 * k + 1)) (B (4 * k + 2)) (B (4 * k + 3))) := Wf_lo B k hlt
      have c0 := hnw.cellOf (Hb.out (4 * k) (by omega))
      have c1 := hnw.cellOf (Hb.out (4 * k + 1) (by omega))
      have c2 := hnw.cellOf (Hb.out (4 * k + 2) (by omega))
      have c3 := hnw.cellOf (Hb.out (4 * k + 3) (by omega))
      have l0 := HB.out (4 * k) (by omega)
      have l1 := HB.out (4 * k + 1) (by omega)
      have l2 := HB.out (4 * k + 2) (by omega)
      have l3 := HB.out (4 * k + 3) (by omega)
      generalize B (4 * k) = b0 at c0 l0 hWl
      generalize B (4 * k + 1) = b1 at c1 l1 hWl
      generalize B (4 * k + 2) = b2 at c2 l2 hWl
      generalize B (4 * k + 3) = b3 at c3 l3 hWl
      obtain ⟨m, hm⟩ : ∃ m, m = 64 - 4 * k := ⟨_, rfl⟩
      rw [← hm] at hsl
      have m0 : (0 : Int) < (m : Int) := by omega
      have m1 : (1 : Int) < (m : Int) := by omega
      have m2 : (2 : Int) < (m : Int) := by omega
      have m3 : (3 : Int) < (m : Int) := by omega
      clear hm
      simp only [← Nat.add_assoc] at c1 c2 c3
      obtain ⟨q, hq⟩ : ∃ q, q = 9 + 4 * k := ⟨_, rfl⟩
      rw [← hq] at hsl c0 c1 c2 c3
      clear hq
      obtain ⟨o1, o2, o3⟩ := wd_or b0 b1 b2 b3 l0 l1 l2 l3
      have o4 : Hid (bits .or .u32 (bits .or .u32 (bits .or .u32 ((b0 : Int) * 16777216) ((b1 : Int) * 65536)) ((b2 : Int) * 256)) (b3 : Int) = ((Wf B k : Nat) : Int)) := by
        rw [show (b0 : Int) * 16777216 = ((b0 * 16777216 : Nat) : Int) by omega, show (b1 : Int) * 65536 = ((b1 * 65536 : Nat) : Int) by omega, show (b2 : Int) * 256 = ((b2 * 256 : Nat) : Int) by omega]
        unfold Hid
        rw [o1, o2, o3, hWl.out]
      clear o1 o2 o3
      have hcs : wr.cell? ⟨w.heap.size + 1, k, none⟩ = some (u32v 0) := (cell_of hc k).trans (by rw [wcs, Array.getElem?_ofFn, dif_pos (by omega), if_neg (by simp)])
      have hfz : wr.frozen? ⟨w.heap.size + 1, k, none⟩ = false := frozen_of hc k
      go_wp2
      go_region
      go_wp2
      rw [o4.out]
      refine ⟨⟨k + 1, by omega, by go_num, ((hnw.setCell _ _ (fun h => absurd h (by simp))).drew), ?_, ?_⟩, by simp [intOf]; omega⟩
      · exact (heap_set_ne (by omega) _).trans hz
      · rw [← wcs_set B k (by omega)]
        exact heap_set hc _
    · have H16 : Hid (k = 16) := by unfold Hid; omega
      have hge : ¬ (k : Int) < 16 := by omega
      clear hlt
      go_wp2
      go_loopw [6] (fun i wq => ∃ k : Nat, 16 ≤ k ∧ k ≤ 64 ∧ i = .int .i64 k ∧ Nw w wq ∧ wq.heap[w.heap.size]? = some (.cells z64 126 (0, 0)) ∧ wq.heap[w.heap.size + 1]? = some (.cells (wcs B k) 126 (0, 0))) (fun i _ => 64 - (intOf i).toNat)
      case atStart => exact ⟨16, by omega, by omega, rfl, hnw, hz, by rw [← H16.out]; exact hc⟩
      case round =>
        clear hnw hz hc
        obtain ⟨k0, hk0⟩ : ∃ x, x = k := ⟨_, rfl⟩
        subst hk0
        obtain ⟨k, hk16, hk, rfl, hnw, hz, hc⟩ := hrel
        by_cases hlt : k < 64
        · have hki : (k : Int) < 64 := by omega
          have h2 := (cell_of hc (k - 2)).trans (wcs_get B k (k - 2) (by omega) hk)
          have h7 := (cell_of hc (k - 7)).trans (wcs_get B k (k - 7) (by omega) hk)
          have h15 := (cell_of hc (k - 15)).trans (wcs_get B k (k - 15) (by omega) hk)
          have h16 := (cell_of hc (k - 16)).trans (wcs_get B k (k - 16) (by omega) hk)
          have hW : Hid (Wf B k = ad (ad (ad (Wf B (k - 16)) (s0 (Wf B (k - 15)))) (Wf B (k - 7))) (s1 (Wf B (k - 2)))) := Wf_hi B k hk16 hlt
          have l2 := Wf_lt B HB.out (k - 2) (by omega)
          have l7 := Wf_lt B HB.out (k - 7) (by omega)
          have l15 := Wf_lt B HB.out (k - 15) (by omega)
          have l16 := Wf_lt B HB.out (k - 16) (by omega)
          generalize Wf B (k - 2) = y at h2 l2 hW
          generalize Wf B (k - 15) = x at h15 l15 hW
          generalize Wf B (k - 7) = u at h7 l7 hW
          generalize Wf B (k - 16) = v at h16 l16 hW
          have hcs : wr.cell? ⟨w.heap.size + 1, k, none⟩ = some (u32v 0) := (cell_of hc k).trans (by rw [wcs, Array.getElem?_ofFn, dif_pos (by omega), if_neg (by simp)])
          have hfz : wr.frozen? ⟨w.heap.size + 1, k, none⟩ = false := frozen_of hc k
          have n2 : ((k : Int) - 2).toNat = k - 2 := by omega
          have n15 : ((k : Int) - 15).toNat = k - 15 := by omega
          have i2 : (0 : Int) ≤ (k : Int) - 2 := by omega
          have i15 : (0 : Int) ≤ (k : Int) - 15 := by omega
          have j2 : (k : Int) - 2 < 64 := by omega
          have j15 : (k : Int) - 15 < 64 := by omega
          have x1 := b_xo (rr x 7) (rr x 18) (rr_lt _ _ l15) (rr_lt _ _ l15)
          have x2 : bits .xor .u32 ((xo (rr x 7) (rr x 18) : Nat) : Int) ((x : Int) / 8) = ((s0 x : Nat) : Int) := b_xo _ _ (xo_lt _ _ (rr_lt _ _ l15) (rr_lt _ _ l15)) (dv_lt _ _ l15)
          have y1 := b_xo (rr y 17) (rr y 19) (rr_lt _ _ l2) (rr_lt _ _ l2)
          have y2 : bits .xor .u32 ((xo (rr y 17) (rr y 19) : Nat) : Int) ((y : Int) / 1024) = ((s1 y : Nat) : Int) := b_xo _ _ (xo_lt _ _ (rr_lt _ _ l2) (rr_lt _ _ l2)) (dv_lt _ _ l2)
          have a1 := b_ad v (s0 x)
          have a2 := b_ad (ad v (s0 x)) u
          have a3 := b_ad (ad (ad v (s0 x)) u) (s1 y)
          have b1 := w_ad v (s0 x)
          have b2 := w_ad (ad v (s0 x)) u
          have b3 := w_ad (ad (ad v (s0 x)) u) (s1 y)
          go_wp2
          go_quiet (fail)
          go_wp2
          obtain ⟨q7, hq7⟩ : ∃ q, q = k - 7 := ⟨_, rfl⟩
          obtain ⟨q16, hq16⟩ : ∃ q, q = k - 16 := ⟨_, rfl⟩
          rw [← hq7] at h7
          rw [← hq16] at h16
          have w7 : IntKind.i64.wrap ((k : Int) - 7) = (q7 : Int) := by rw [IntKind.wrap_i64]; omega
          have w16 : IntKind.i64.wrap ((k : Int) - 16) = (q16 : Int) := by rw [IntKind.wrap_i64]; omega
          have j7 : (q7 : Int) < 64 := by omega
          have j16 : (q16 : Int) < 64 := by omega
          have d7 : q7 ≠ k := by omega
          have d16 : q16 ≠ k := by omega
          clear hq7 hq16
          go_region_held3 (fun w' => w'.cell? ⟨w.heap.size + 1, q16, none⟩ = some (u32v v) ∧ w'.cell? ⟨w.heap.size + 1, q7, none⟩ = some (u32v u)) (first | exact ⟨h16, h7⟩ | exact ⟨(cell_set_off d16 _).trans h16, (cell_set_off d7 _).trans h7⟩) ((go_at_call 74; refine (right_any _ _ (by first | exact l15 | exact l2) (by decide) _).mono ?_; rintro e1 w1 ⟨rfl, rfl⟩))
          go_wp2
          rw [← hW.out]
          refine ⟨⟨k + 1, by omega, by omega, by go_num, ((hnw.drewN _).setCell _ _ (fun h => absurd h (by simp))), ?_, ?_⟩, by simp [intOf]; omega⟩
          · exact (heap_set_ne (by omega) _).trans hz
          · rw [← wcs_set B k (by omega)]
            exact heap_set hc _
        · obtain rfl : k = 64 := by omega
          go_wp2_with first
            | (refine wp_load_agg rfl (.tmp 3) 126 64 rfl Tryd.isAgg126 Tryd.sizeOf126 (w.heap.size + 1) 0 rfl (wcs B 64) 126 (0, 0) hc (wcs B 64) (wcs_size _ _) (fun j _ => by rw [Nat.zero_add]) ?_)
            | (refine wp_store_agg rfl (.tmp 2) (.tmp 83) 126 64 rfl Tryd.sizeOf126 w.heap.size 0 rfl z64 126 hz (wcs B 64) rfl (wcs_size _ _) (wcs_one B 64) (by decide) (wcs B 64) (by rw [z64_drop]; simp) ?_; intro w4 j4 f4 z4)
          exact bodyPost_ret (results_cell Tryd.results70 Tryd.isAgg126 Tryd.sizeOf126 rfl j4 (wcs_size _ _)) rfl ⟨rfl, hnw.trans f4 (fun k hk q => by omega)⟩
end Go.Proofs.YtaeocbdphfkflaaDoor
namespace Go.Proofs.YtaeocbdphfkflaaDoor
open Go.RowKit
set_option linter.unusedVariables false
set_option linter.unusedSimpArgs false

/-- A digest's cells. -/
def dcs (s : V8) (blk : List UInt8) (n : Nat) : Array Value := (.bool true :: ((vals s).toList ++ (bc blk ++ [.int .u64 (n : Int)]))).toArray
theorem vals_len (s : V8) : (vals s).toList.length = 8 := rfl
theorem vals_size (s : V8) : (vals s).size = 8 := rfl
theorem dcs_size (s : V8) (blk : List UInt8) (n : Nat) (h : blk.length = 64) : (dcs s blk n).size = 74 := by
  simp [dcs, vals_size, bc_len, h]
theorem dcs_0 (s : V8) (blk : List UInt8) (n : Nat) : (dcs s blk n)[0]? = some (.bool true) := rfl
theorem dcs_73 (s : V8) (blk : List UInt8) (n : Nat) (h : blk.length = 64) : (dcs s blk n)[73]? = some (.int .u64 (n : Int)) := by
  simp only [dcs, List.getElem?_toArray, List.getElem?_cons_succ]
  rw [List.getElem?_append_right (by rw [vals_len]; omega), vals_len, List.getElem?_append_right (by rw [bc_len, h]; omega), bc_len, h]
  rfl
theorem dcs_w (s : V8) (blk : List UInt8) (n j : Nat) (hj : j < 8) : (dcs s blk n)[1 + j]? = (vals s)[j]? := by
  rw [Nat.add_comm]
  simp only [dcs, List.getElem?_toArray, List.getElem?_cons_succ]
  rw [List.getElem?_append_left (by rw [vals_len]; omega), Array.getElem?_toList]
theorem dcs_b (s : V8) (blk : List UInt8) (n j : Nat) (hj : j < 64) (h : blk.length = 64) : (dcs s blk n)[9 + j]? = some (.int .u8 ((blk.getD j 0).toNat : Nat)) := by
  rw [show 9 + j = (8 + j) + 1 by omega]
  simp only [dcs, List.getElem?_toArray, List.getElem?_cons_succ]
  rw [List.getElem?_append_right (by rw [vals_len]; omega), vals_len, show 8 + j - 8 = j by omega, List.getElem?_append_left (by rw [bc_len, h]; omega), bc, List.getElem?_map, List.getElem?_eq_getElem (by omega), List.getD_eq_getElem?_getD, List.getElem?_eq_getElem (by omega)]
  rfl
theorem dcs_words (s s' : V8) (blk : List UInt8) (n : Nat) : (dcs s' blk n).toList = (dcs s blk n).toList.take 1 ++ (vals s').toList ++ (dcs s blk n).toList.drop (1 + 8) := by
  simp only [dcs, List.toList_toArray, List.take_succ_cons, List.take_zero, Nat.add_comm 1 8, List.drop_succ_cons]
  rw [List.drop_append_of_le_length (by rw [vals_len]; omega), show ((vals s).toList.drop 8) = [] from List.drop_of_length_le (by rw [vals_len]; omega)]
  simp
theorem dcs_copy (s : V8) (blk c : List UInt8) (n f : Nat) (h : blk.length = 64) (hf : f + c.length ≤ 64) : (dcs s (blk.take f ++ c ++ blk.drop (f + c.length)) n).toList = (dcs s blk n).toList.take (9 + f) ++ bc c ++ (dcs s blk n).toList.drop (9 + f + c.length) := by
  simp only [dcs, List.toList_toArray]
  rw [show 9 + f = (8 + f) + 1 by omega, show 8 + f + 1 + c.length = (8 + (f + c.length)) + 1 by omega, List.take_succ_cons, List.drop_succ_cons]
  have e1 : ((vals s).toList ++ (bc blk ++ [Value.int .u64 (n : Int)])).take (8 + f) = (vals s).toList ++ bc (blk.take f) := by
    rw [List.take_append, List.take_of_length_le (by rw [vals_len]; omega), vals_len, show 8 + f - 8 = f by omega, List.take_append_of_le_length (by rw [bc_len]; omega)]
    simp [bc]
  have e2 : ((vals s).toList ++ (bc blk ++ [Value.int .u64 (n : Int)])).drop (8 + (f + c.length)) = bc (blk.drop (f + c.length)) ++ [Value.int .u64 (n : Int)] := by
    rw [List.drop_append, List.drop_of_length_le (by rw [vals_len]; omega), vals_len, show 8 + (f + c.length) - 8 = f + c.length by omega, List.drop_append_of_le_length (by rw [bc_len]; omega)]
    simp [bc]
  rw [e1, e2]
  simp [bc_app]
theorem dcs_count (s : V8) (blk : List UInt8) (n m : Nat) (h : blk.length = 64) : (dcs s blk n).setIfInBounds 73 (.int .u64 (m : Int)) = dcs s blk m := by
  apply Array.ext'
  rw [Array.toList_setIfInBounds]
  simp only [dcs, List.toList_toArray, List.set_cons_succ]
  rw [List.set_append_right _ _ (by rw [vals_len]; omega), vals_len, List.set_append_right _ _ (by rw [bc_len, h]; omega), bc_len, h]
  rfl
/-- A block of bytes as numbers. -/
abbrev bn (blk : List UInt8) : Nat → Nat := fun i => (blk.getD i 0).toNat
/-- The words behind a block. -/
def comp (s : V8) (blk : List UInt8) : V8 := add8 s (rounds Kc (Wf (bn blk)) s 64)
theorem comp_ok (s : V8) (blk : List UInt8) : (comp s blk).ok := add8_ok _ _
theorem vals_one (s : V8) : ∀ u ∈ (vals s).toList, u.oneCell' = true := by simp [vals, Value.oneCell']
abbrev tD : TypeId := 102

set_option maxRecDepth 100000 in
set_option maxHeartbeats 1000000 in
theorem filled_any (d n : Nat) (hn : n < 18446744073709551616) (w : World) (hc : w.cell? ⟨d, 73, none⟩ = some (.int .u64 (n : Int))) :
    Calls Tryd.prog 60 #[.pointer (some ⟨d, 0, none⟩)] w fun e w' => e = .returned (.int .i64 ((n % 64 : Nat) : Int)) ∧ w' = w := by
  go_enter Tryd.func60, Tryd.ntmps60
  go_wp2
  go_ret
  exact ⟨by go_num, rfl⟩

set_option maxRecDepth 100000 in
set_option maxHeartbeats 1000000 in
theorem mix_any (d : Nat) (s : V8) (hs : s.ok) (blk : List UInt8) (hl : blk.length = 64) (n : Nat) (w : World) (hd : w.heap[d]? = some (.cells (dcs s blk n) tD (0, 0))) (hK : Ks w) :
    Calls Tryd.prog 61 #[.pointer (some ⟨d, 0, none⟩)] w fun e w' => e = .returned (.tuple #[]) ∧ w'.heap[d]? = some (.cells (dcs (comp s blk) blk n) tD (0, 0)) ∧ Fr (fun k => k = d) w w' := by
  have HK : Hid (Ks w) := hK
  clear hK
  have hdl := heap_lt hd
  have HL : Hid (blk.length = 64) := hl
  clear hl
  go_enter Tryd.func61, Tryd.ntmps61
  go_wp2_with fail
  have q := spread_any d (bn blk) (fun i _ => UInt8.toNat_lt _) w (fun i hi => (cell_of hd (9 + i)).trans (dcs_b s blk n i hi HL.out))
  refine q.mono ?_
  rintro e w1 ⟨rfl, n1⟩
  have d1 := (n1.block d hdl (fun f => f)).trans hd
  have n1s := n1.size
  go_wp2_with first
    | (refine wp_store_agg rfl (.tmp 2) (.tmp 6) 126 64 rfl Tryd.sizeOf126 w1.heap.size 0 rfl _ 126 (heap_new _ _) (wcs (bn blk) 64) rfl (wcs_size _ _) (wcs_one _ _) (by decide) (wcs (bn blk) 64) (by simp) ?_; intro w2 j2 f2 z2; have n2 : Nw w w2 := (n1.alloc _).trans f2 (fun k hk q => by omega); have d2 := (n2.block d hdl (fun f => f)).trans hd)
    | (refine wp_load_agg rfl (.tmp 10) 99 8 rfl Tryd.isAgg99 Tryd.sizeOf99 d 1 rfl (dcs s blk n) tD (0, 0) d2 (vals s) rfl (fun j hj => dcs_w s blk n j hj) ?_)
    | (go_at_call 71; refine (mixed_any s hs w1.heap.size (Wf (bn blk)) (fun i hi => Wf_lt _ (fun i _ => UInt8.toNat_lt _) i hi) w2 (fun i hi => (cell_of j2 i).trans (wcs_get _ 64 i hi (Nat.le_refl _))) (HK.out.nw n2)).mono ?_; rintro e w3 ⟨rfl, n3⟩; have n4 : Nw w w3 := n2.tr n3; have d3 := (n4.block d hdl (fun f => f)).trans hd)
    | (refine wp_store_agg rfl (.tmp 14) (.tmp 12) 99 8 rfl Tryd.sizeOf99 d 1 rfl (dcs s blk n) tD d3 (vals (comp s blk)) rfl rfl (vals_one _) (by rw [dcs_size _ _ _ HL.out]; decide) (dcs (comp s blk) blk n) (dcs_words s _ blk n) ?_; intro w5 j5 f5 z5)
  exact bodyPost_end (v := .tuple #[]) (by simp [results, Tryd.results61, go_sem]) rfl ⟨rfl, j5, (n4.mono (fun _ _ f => f.elim)).trans f5 (fun _ _ q => q)⟩
end Go.Proofs.YtaeocbdphfkflaaDoor
namespace Go.Proofs.YtaeocbdphfkflaaDoor
open Go.RowKit
set_option linter.unusedVariables false
set_option linter.unusedSimpArgs false

def H0 : V8 := ⟨1779033703, 3144134277, 1013904242, 2773480762, 1359893119, 2600822924, 528734635, 1541459225⟩
theorem H0_ok : H0.ok := ⟨by decide, by decide, by decide, by decide, by decide, by decide, by decide, by decide⟩
/-- The words behind so many blocks. -/
def st (L : List UInt8) : Nat → V8
  | 0 => H0
  | n + 1 => comp (st L n) ((L.drop (64 * n)).take 64)
theorem st_ok (L : List UInt8) : ∀ n, (st L n).ok
  | 0 => H0_ok
  | n + 1 => comp_ok _ _
theorem st_app (L M : List UInt8) : ∀ n, 64 * n ≤ L.length → st (L ++ M) n = st L n
  | 0, _ => rfl
  | n + 1, h => by
    rw [st, st, st_app L M n (by omega), List.drop_append_of_le_length (by omega), List.take_append_of_le_length (by rw [List.length_drop]; omega)]
/-- A digest of the bytes L. -/
def Dig (w : World) (d : Nat) (L : List UInt8) : Prop :=
  ∃ blk : List UInt8, blk.length = 64 ∧ blk.take (L.length % 64) = L.drop (64 * (L.length / 64)) ∧ w.heap[d]? = some (.cells (dcs (st L (L.length / 64)) blk L.length) tD (0, 0))
theorem Dig.keep {w w' : World} {d : Nat} {L : List UInt8} (h : Dig w d L) {S : Nat → Prop} (f : Fr S w w') (hs : ¬ S d) : Dig w' d L := by
  obtain ⟨blk, h1, h2, h3⟩ := h
  exact ⟨blk, h1, h2, (f.block d (heap_lt h3) hs).trans h3⟩
theorem Dig.lt {w : World} {d : Nat} {L : List UInt8} (h : Dig w d L) : d < w.heap.size := by
  obtain ⟨blk, h1, h2, h3⟩ := h
  exact heap_lt h3
theorem dig_part (L c blk : List UInt8) (hb : blk.length = 64) (ht : blk.take (L.length % 64) = L.drop (64 * (L.length / 64))) (hc : L.length % 64 + c.length < 64) :
    (blk.take (L.length % 64) ++ c ++ blk.drop (L.length % 64 + c.length)).take ((L ++ c).length % 64) = (L ++ c).drop (64 * ((L ++ c).length / 64)) ∧ st (L ++ c) ((L ++ c).length / 64) = st L (L.length / 64) := by
  have e1 : (L ++ c).length / 64 = L.length / 64 := by rw [List.length_append]; omega
  have e2 : (L ++ c).length % 64 = L.length % 64 + c.length := by rw [List.length_append]; omega
  rw [e1, e2]
  refine ⟨?_, st_app L c _ (by omega)⟩
  rw [List.take_append_of_le_length (by simp [hb]; omega), List.take_of_length_le (by simp [hb]; omega), ht, List.drop_append_of_le_length (by omega)]
theorem dig_full (L c blk : List UInt8) (hb : blk.length = 64) (ht : blk.take (L.length % 64) = L.drop (64 * (L.length / 64))) (hc : L.length % 64 + c.length = 64) :
    (blk.take (L.length % 64) ++ c ++ blk.drop (L.length % 64 + c.length)).take ((L ++ c).length % 64) = (L ++ c).drop (64 * ((L ++ c).length / 64)) ∧ st (L ++ c) ((L ++ c).length / 64) = comp (st L (L.length / 64)) (blk.take (L.length % 64) ++ c ++ blk.drop (L.length % 64 + c.length)) := by
  have e1 : (L ++ c).length / 64 = L.length / 64 + 1 := by rw [List.length_append]; omega
  have e2 : (L ++ c).length % 64 = 0 := by rw [List.length_append]; omega
  rw [e1, e2]
  refine ⟨?_, ?_⟩
  · rw [List.drop_of_length_le (l := L ++ c) (by rw [List.length_append]; omega)]; simp
  · rw [st, st_app L c _ (by omega), ht, List.drop_append_of_le_length (by omega), hc, List.drop_of_length_le (l := blk) (by omega), List.append_nil, List.take_of_length_le (by simp; omega)]

theorem run_copy_str {P : Program} (w : World) (dT sT ty elem : TypeId) (g o dLen dCap : Nat) (x : ByteArray) (cur : Array Value) (t : TypeId) (c : List UInt8)
    (hu : P.underlying dT = some (.slice elem)) (hs : (P.info? elem).map (·.size) = some 1) (hg : w.heap[g]? = some (.cells cur t (0, 0)))
    (hc : c = x.data.toList.take (Nat.min x.size dLen)) (hfit : o + c.length ≤ cur.size) :
    (Builtin.copy_ #[dT, sT] ty #[.slice (some ⟨g, o, none⟩) dLen dCap, .string x]).run P w =
      .ok (goInt (Nat.min x.size dLen)) (w.setRow g (cur.toList.take o ++ bc c ++ cur.toList.drop (o + c.length)).toArray) := by
  have hst := run_storeCells_at P g o t (bc c) 0 cur w hg (by simpa [bc_len] using hfit) (by simp [bc, Value.oneCell'])
  have he : (((x.extract 0 (Nat.min x.size dLen)).data.map fun b => Value.int .u8 b.toNat)).toList = bc c := by
    rw [hc, bc, Array.toList_map, ByteArray.data_extract]
    simp
  cases hq : P.info? elem with
  | none => simp [hq] at hs
  | some i =>
    have hi : i.size = 1 := by simpa [hq] using hs
    simp only [Nat.add_zero, bc_len] at hst
    have he3 : List.take (Nat.min x.size dLen) (List.map (fun b : UInt8 => Value.int .u8 (b.toNat : Int)) x.data.toList) = bc c := by rw [hc, bc, List.map_take]
    clear hc he
    simp [Builtin.copy_, run_underlying hu, Builtin.lenOf, Builtin.firstCells, sizeOf, typeInfo, hq, hi, he3, hst]
theorem step_copy_str {P : Program} {ops : Array Oper} {o : Oper} {a : Act} {w : World} {K : Act → World → Prop} {Q : Exit → Act → World → Prop} {E : Prop} (hgd : o.guard = none) (d s : Operand) (dT sT : TypeId)
    (ho : o.op = .call { callee := .builtin .copy, args := #[d, s], argTypes := #[dT, sT] }) (elem : TypeId) (hu : P.underlying dT = some (.slice elem)) (hsz : (P.info? elem).map (·.size) = some 1)
    (g off dLen dCap : Nat) (x : ByteArray) (hd : a.eval d = .slice (some ⟨g, off, none⟩) dLen dCap) (hs : a.eval s = .string x)
    (cur : Array Value) (t : TypeId) (hg : w.heap[g]? = some (.cells cur t (0, 0))) (c : List UInt8) (hc : c = x.data.toList.take (Nat.min x.size dLen)) (k : Nat) (hk : Nat.min x.size dLen = k) (hfit : off + c.length ≤ cur.size)
    (new : Array Value) (hnew : new.toList = cur.toList.take off ++ bc c ++ cur.toList.drop (off + c.length))
    (h : ∀ w', w'.heap[g]? = some (.cells new t (0, 0)) → Fr (fun k => k = g) w w' → K (a.put o.dst (.int .i64 (k : Int))) w') :
    if Region.wanted o (yielded ops a.tmps) = true then Oper.wp P o a w K Q else E := by
  have hw : Region.wanted o (yielded ops a.tmps) = true := by simp [Region.wanted, hgd]
  rw [if_pos hw]
  have hrun := run_copy_str (P := P) w dT sT o.type elem g off dLen dCap x cur t c hu hsz hg hc hfit
  have hn : new = (cur.toList.take off ++ bc c ++ cur.toList.drop (off + c.length)).toArray := by apply Array.ext'; rw [hnew]
  rw [← hn, hk] at hrun
  unfold Oper.wp
  simp [execOp, ho, resolve, invoke, builtin, hd, hs, hrun, Result.andThen]
  exact h _ (setRow_heap w g cur new t (0, 0) hg) ⟨rfl, rfl, rfl, by simp, fun k hk hne => setRow_other w g k new hne⟩
/-- How long a text is. -/
def strLen : Value → Nat
  | .string x => x.size
  | _ => 0
theorem sz8 : (Tryd.prog.info? 5).map (·.size) = some 1 := by kernel_rfl

set_option maxRecDepth 100000 in
set_option maxHeartbeats 1000000 in
theorem take_any (d : Nat) (L : List UInt8) (s : ByteArray) (w : World) (hD : Dig w d L) (hK : Ks w) (hne : d ≠ 18) (hlen : L.length + s.size < 4611686018427387904) :
    Calls Tryd.prog 50 #[.pointer (some ⟨d, 0, none⟩), .string s] w fun e w' => e = .returned (.tuple #[]) ∧ Dig w' d (L ++ s.data.toList) ∧ Fr (fun k => k = d) w w' := by
  have HK : Hid (Ks w) := hK
  have HD : Hid (Dig w d L) := hD
  have HN : Hid (d ≠ 18) := hne
  have HL : Hid (L.length + s.size < 4611686018427387904) := hlen
  clear hK hD hne hlen
  go_enter Tryd.func50, Tryd.ntmps50
  go_wp2
  go_loopw [1] (fun t wr => ∃ (x : ByteArray) (A : List UInt8), t = .string x ∧ s.data.toList = A ++ x.data.toList ∧ Dig wr d (L ++ A) ∧ Fr (fun k => k = d) w wr) (fun t _ => strLen t)
  case atStart => exact ⟨s, [], rfl, rfl, by rw [List.append_nil]; exact HD.out, Fr.refl _ _⟩
  case round =>
    obtain ⟨x, A, rfl, hx, hD, hfr⟩ := hrel
    have hxl : x.data.toList.length = x.size := by rw [Array.length_toList]; rfl
    have hsl : s.data.toList.length = s.size := by rw [Array.length_toList]; rfl
    have hAl : A.length + x.size = s.size := by have := congrArg List.length hx; rw [List.length_append, hxl, hsl] at this; omega
    by_cases hx0 : x.size = 0
    · have hx1 : ¬ (0 : Int) < (x.size : Int) := by omega
      have hxn : x.data.toList = [] := List.eq_nil_of_length_eq_zero (by omega)
      rw [hxn, List.append_nil] at hx
      have HX : Hid (s.data.toList = A) := hx
      clear hx hx0 hxn hxl hAl
      go_wp2
      exact bodyPost_end (v := .tuple #[]) (by simp [results, Tryd.results50, go_sem]) rfl ⟨rfl, by rw [HX.out]; exact hD, hfr⟩
    · obtain ⟨M, hM⟩ : ∃ M, M = L ++ A := ⟨_, rfl⟩
      rw [← hM] at hD
      obtain ⟨blk, hb1, hb2, hb3⟩ := hD
      obtain ⟨f, hf⟩ : ∃ f, f = M.length % 64 := ⟨_, rfl⟩
      have hf64 : f < 64 := by omega
      obtain ⟨c, hc⟩ : ∃ c, c = x.data.toList.take (Nat.min x.size (64 - f)) := ⟨_, rfl⟩
      obtain ⟨k, hk⟩ : ∃ k, Nat.min x.size (64 - f) = k := ⟨_, rfl⟩
      have hk1 : 1 ≤ k := by have := hk; simp only [Nat.min_def] at this; split at this <;> omega
      have hkx : k ≤ x.size := by have := hk; simp only [Nat.min_def] at this; split at this <;> omega
      have hck : c.length = k := by rw [hc, List.length_take, hxl, hk]; exact Nat.min_eq_left hkx
      have hkf : f + k ≤ 64 := by have := hk; simp only [Nat.min_def] at this; split at this <;> omega
      have hMl : M.length + k < 4611686018427387904 := by have := HL.out; rw [hM, List.length_append]; omega
      have hsl64 := fun W => slice64 d 9 f hf64 W
      have hcell : wr.cell? ⟨d, 73, none⟩ = some (.int .u64 (M.length : Int)) := (cell_of hb3 73).trans (dcs_73 _ _ _ hb1)
      have qf := fun W (hW : W.cell? ⟨d, 73, none⟩ = some (.int .u64 (M.length : Int))) => filled_any d M.length (by omega) W hW
      rw [← hf] at qf
      have hx1 : (0 : Int) < (x.size : Int) := by omega
      have HQ : Hid (∀ W, W.cell? ⟨d, 73, none⟩ = some (.int .u64 (M.length : Int)) → Calls Tryd.prog 60 #[.pointer (some ⟨d, 0, none⟩)] W fun e w' => e = .returned (.int .i64 (f : Int)) ∧ w' = W) := qf
      clear qf
      have HX : Hid (s.data.toList = A ++ x.data.toList) := hx
      have HM : Hid (M = L ++ A) := hM
      have HF : Hid (f = M.length % 64) := hf
      have HC : Hid (c = x.data.toList.take (Nat.min x.size (64 - f))) := hc
      have HKK : Hid (Nat.min x.size (64 - f) = k) := hk
      clear hx hM hf hc hk
      go_wp2
      go_region_held3 (fun w' => True) (trivial) (first
        | (go_at_call 60; refine (HQ.out wr.drew hcell).mono ?_; rintro e1 w1 ⟨rfl, rfl⟩)
        | (show if Region.wanted (Oper.mk _ (.call ⟨.builtin .copy, _, _⟩) _ _ _ _) _ = true then _ else _; refine step_copy_str rfl (.tmp 13) (.tmp 14) 87 9 rfl 5 Tryd.underlying87 sz8 d (9 + f) (64 - f) (64 - f) x rfl rfl (dcs (st M (M.length / 64)) blk M.length) tD hb3 c HC.out k HKK.out (by rw [dcs_size _ _ _ hb1]; omega) (dcs (st M (M.length / 64)) (blk.take f ++ c ++ blk.drop (f + c.length)) M.length) (dcs_copy _ _ _ _ _ hb1 (by omega)) ?_; intro w2 j2 f2))
      obtain ⟨nb, hnb⟩ : ∃ nb, nb = blk.take f ++ c ++ blk.drop (f + c.length) := ⟨_, rfl⟩
      rw [← hnb] at j2
      have hn1 : nb.length = 64 := by rw [hnb]; simp [hb1]; omega
      have HNB : Hid (nb = blk.take f ++ c ++ blk.drop (f + c.length)) := hnb
      clear hnb
      have hc2 : w2.cell? ⟨d, 73, none⟩ = some (.int .u64 (M.length : Int)) := (cell_of j2 73).trans (dcs_73 _ _ _ hn1)
      have hz2 : w2.frozen? ⟨d, 73, none⟩ = false := frozen_of j2 73
      have hkx2 : (k : Int) ≤ (x.size : Int) := by omega
      have eM : ((M.length + k : Nat) : Int) = (M.length : Int) + (k : Int) := by omega
      have hnM : (M.length : Int) + (k : Int) < 4611686018427387904 := by omega
      clear hcell
      go_wp2_with fail
      have j3 : (w2.setCell ⟨d, 73, none⟩ (.int .u64 ((M.length : Int) + (k : Int)))).heap[d]? = some (.cells (dcs (st M (M.length / 64)) nb (M.length + k)) tD (0, 0)) := by
        rw [heap_set j2, ← eM, dcs_count _ _ _ _ hn1]
      have f3 : Fr (fun k => k = d) w (w2.setCell ⟨d, 73, none⟩ (.int .u64 ((M.length : Int) + (k : Int)))) := (hfr.drew.trans f2 (fun _ _ q => q)).setCell _ _ (fun _ => rfl)
      generalize (w2.setCell ⟨d, 73, none⟩ (.int .u64 ((M.length : Int) + (k : Int)))) = w3 at j3 f3 ⊢
      have qf := filled_any d (M.length + k) (by omega) w3 ((cell_of j3 73).trans (dcs_73 _ _ _ hn1))
      obtain ⟨r, hr⟩ : ∃ r, r = (M.length + k) % 64 := ⟨_, rfl⟩
      rw [← hr] at qf
      have HRR : Hid (r = (M.length + k) % 64) := hr
      clear hr
      refine qf.mono ?_
      rintro e4 w4 ⟨rfl, rfl⟩
      clear qf
      have hxe : (x.extract k x.size).data.toList = x.data.toList.drop k := by
        rw [ByteArray.data_extract]
        simp [Array.toList_extract, List.extract]
        exact List.take_of_length_le (by rw [List.length_drop, hxl]; omega)
      have hse : (x.extract k x.size).size = x.size - k := by
        have h1 : (x.extract k x.size).data.toList.length = (x.extract k x.size).size := by rw [Array.length_toList]; rfl
        rw [← h1, hxe, List.length_drop, hxl]
      have hcx : x.data.toList = c ++ x.data.toList.drop k := by
        have := HC.out
        rw [HKK.out] at this
        rw [this, List.take_append_drop]
      have HR : Hid (s.data.toList = (A ++ c) ++ (x.extract k x.size).data.toList) := by
        unfold Hid
        rw [HX.out, hxe, List.append_assoc, ← hcx]
      have HA : Hid (L ++ (A ++ c) = M ++ c) := by unfold Hid; rw [HM.out, List.append_assoc]
      have HE : Hid ((M ++ c).length = M.length + k) := by unfold Hid; rw [List.length_append, hck]
      clear hxe hcx
      by_cases hfull : f + k = 64
      · have hr0 : r = 0 := by have := HF.out; have := HRR.out; omega
        have hz0 : ((r : Int) == 0) = true := by rw [hr0]; rfl
        clear hr0
        have hdf := dig_full M c blk hb1 hb2 (by rw [← HF.out, hck]; exact hfull)
        rw [← HF.out, ← HNB.out] at hdf
        have HDF : Hid _ := hdf
        clear hdf
        have k4 : Ks w4 := fun i hi => (f3.cell (World.block_lt_of_cell? w _ (HK.out i hi)) (fun e => HN.out e.symm)).trans (HK.out i hi)
        have HK4 : Hid (Ks w4) := k4
        clear k4
        go_wp2_with (go_at_call 61; refine (mix_any d (st M (M.length / 64)) (st_ok _ _) nb hn1 (M.length + k) w4 j3 HK4.out).mono ?_; rintro e5 w5 ⟨rfl, j5, f5⟩)
        refine ⟨⟨_, A ++ c, rfl, HR.out, ?_, f3.trans f5 (fun _ _ q => q)⟩, by simp only [strLen]; omega⟩
        rw [HA.out]
        exact ⟨nb, hn1, HDF.out.1, by rw [HDF.out.2, HE.out]; exact j5⟩
      · have hr0 : r = f + k := by have := HF.out; have := HRR.out; omega
        have hz0 : ((r : Int) == 0) = false := by rw [beq_eq_false_iff_ne, hr0]; omega
        clear hr0
        have hdf := dig_part M c blk hb1 hb2 (by rw [← HF.out, hck]; omega)
        rw [← HF.out, ← HNB.out] at hdf
        have HDF : Hid _ := hdf
        clear hdf
        go_wp2
        refine ⟨⟨_, A ++ c, rfl, HR.out, ?_, f3⟩, by simp only [strLen]; omega⟩
        rw [HA.out]
        exact ⟨nb, hn1, HDF.out.1, by rw [HDF.out.2, HE.out]; exact j3⟩
end Go.Proofs.YtaeocbdphfkflaaDoor
namespace Go.Proofs.YtaeocbdphfkflaaDoor
open Go.RowKit
set_option linter.unusedVariables false
set_option linter.unusedSimpArgs false

def wl (s : V8) : List Nat := [s.a, s.b, s.c, s.d, s.e, s.f, s.g, s.h]
/-- A byte of a hash. -/
def hby (s : V8) (i : Nat) : Nat := (wl s).getD (i / 4) 0 / 2 ^ (8 * (3 - i % 4)) % 256
theorem hby_lt (s : V8) (i : Nat) : hby s i < 256 := Nat.mod_lt _ (by decide)
def hcs (s : V8) (t : Nat) : Array Value := Array.ofFn (n := 32) fun i => .int .u8 ((if i.val < t then hby s i.val else 0 : Nat) : Int)
/-- A hash as a value. -/
def hsh (s : V8) : Value := .agg (hcs s 32)
def z32 : Array Value := Array.replicate 32 (.int .u8 0)
theorem hcs_size (s : V8) (t : Nat) : (hcs s t).size = 32 := by simp [hcs]
theorem hcs_0 (s : V8) : hcs s 0 = z32 := by
  apply Array.ext
  · simp [hcs, z32]
  · intro i h1 h2
    simp [hcs, z32]
theorem hcs_set (s : V8) (t : Nat) (ht : t < 32) : (hcs s t).setIfInBounds t (.int .u8 ((hby s t : Nat) : Int)) = hcs s (t + 1) := by
  apply Array.ext
  · simp [hcs]
  · intro i h1 h2
    rw [Array.getElem_setIfInBounds (by simpa using h1)]
    simp only [hcs, Array.getElem_ofFn]
    by_cases h : t = i
    · subst h; simp
    · rw [if_neg h]
      have : (i < t + 1) = (i < t) := by apply propext; omega
      simp only [this]
theorem hcs_one (s : V8) (t : Nat) : ∀ u ∈ (hcs s t).toList, u.oneCell' = true := by
  intro u hu
  have hu2 : u ∈ hcs s t := by simpa using hu
  obtain ⟨i, hi, rfl⟩ := Array.mem_iff_getElem.1 hu2
  simp [hcs, Value.oneCell']
theorem z32_drop : z32.toList.drop (0 + 32) = [] := by rw [z32]; simp
theorem vals_at (s : V8) (j : Nat) (hj : j < 8) : (vals s)[j]? = some (u32v ((wl s).getD j 0)) := by
  have : j = 0 ∨ j = 1 ∨ j = 2 ∨ j = 3 ∨ j = 4 ∨ j = 5 ∨ j = 6 ∨ j = 7 := by omega
  rcases this with rfl | rfl | rfl | rfl | rfl | rfl | rfl | rfl <;> rfl
theorem wl_lt (s : V8) (hs : s.ok) (j : Nat) : Wd ((wl s).getD j 0) := by
  rcases Nat.lt_or_ge j 8 with h | h
  · have : j = 0 ∨ j = 1 ∨ j = 2 ∨ j = 3 ∨ j = 4 ∨ j = 5 ∨ j = 6 ∨ j = 7 := by omega
    rcases this with rfl | rfl | rfl | rfl | rfl | rfl | rfl | rfl
    · exact hs.a
    · exact hs.b
    · exact hs.c
    · exact hs.d
    · exact hs.e
    · exact hs.f
    · exact hs.g
    · exact hs.h
  · rw [List.getD_eq_getElem?_getD, List.getElem?_eq_none (by simpa [wl] using h)]; decide

set_option maxRecDepth 100000 in
set_option maxHeartbeats 1000000 in
theorem asHash_any (s : V8) (hs : s.ok) (w : World) :
    Calls Tryd.prog 62 #[.agg (vals s)] w fun e w' => e = .returned (hsh s) ∧ Nw w w' := by
  have HS : Hid s.ok := hs
  clear hs
  obtain ⟨R, hR⟩ : ∃ R, R = hsh s := ⟨_, rfl⟩
  rw [← hR]
  have HR : Hid (R = hsh s) := hR
  clear hR
  obtain ⟨V, hV⟩ : ∃ V, V = vals s := ⟨_, rfl⟩
  have HV : Hid (V = vals s) := hV
  have hVs : V.size = 8 := by rw [hV]; rfl
  rw [← hV]
  go_enter Tryd.func62, Tryd.ntmps62
  clear hV
  go_wp2
  go_loopw [5] (fun i wr => ∃ k : Nat, k ≤ 32 ∧ i = .int .i64 k ∧ Nw w wr ∧ wr.heap[w.heap.size]? = some (.cells V 99 (0, 0)) ∧ wr.heap[w.heap.size + 1]? = some (.cells z32 24 (0, 0)) ∧ wr.heap[w.heap.size + 1 + 1]? = some (.cells (hcs s k) 24 (0, 0))) (fun i _ => 32 - (intOf i).toNat)
  case atStart =>
    refine ⟨0, by omega, rfl, (((Fr.refl _ _).alloc _).alloc _).alloc _, ?_, ?_, ?_⟩
    · exact (Below.heap_alloc _ _ _ (by simp; omega)).trans ((Below.heap_alloc _ _ _ (by simp)).trans (heap_new w _))
    · exact (Below.heap_alloc _ _ _ (by simp)).trans ((heap_next w _ _).trans (by kernel_rfl))
    · rw [hcs_0]
      have := heap_next (w.alloc (.cells V 99)) (.cells z32 24) (.cells z32 24)
      rw [World.size_alloc] at this
      have hz : (#[Value.int .u8 0, .int .u8 0, .int .u8 0, .int .u8 0, .int .u8 0, .int .u8 0, .int .u8 0, .int .u8 0, .int .u8 0, .int .u8 0, .int .u8 0, .int .u8 0, .int .u8 0, .int .u8 0, .int .u8 0, .int .u8 0, .int .u8 0, .int .u8 0, .int .u8 0, .int .u8 0, .int .u8 0, .int .u8 0, .int .u8 0, .int .u8 0, .int .u8 0, .int .u8 0, .int .u8 0, .int .u8 0, .int .u8 0, .int .u8 0, .int .u8 0, .int .u8 0] : Array Value) = z32 := by kernel_rfl
      rw [← hz] at this ⊢
      exact this
  case round =>
    obtain ⟨k, hk, rfl, hnw, hv, hz, hc⟩ := hrel
    by_cases hlt : k < 32
    · have hki : (k : Int) < 32 := by omega
      obtain ⟨j, r, hkj, hr⟩ : ∃ j r, k = 4 * j + r ∧ r < 4 := ⟨k / 4, k % 4, by omega, by omega⟩
      have h4 : (k : Int) / 4 = (j : Int) := by omega
      have h4m : (k : Int) % 4 = (r : Int) := by omega
      have hj8 : (j : Int) < 8 := by omega
      have hcw : wr.cell? ⟨w.heap.size, j, none⟩ = some (u32v ((wl s).getD j 0)) := (cell_of hv j).trans (by rw [HV.out]; exact vals_at s j (by omega))
      have hwl := wl_lt s HS.out j
      have HB : Hid (hby s k = (wl s).getD j 0 / 2 ^ (8 * (3 - r)) % 256) := by
        unfold Hid hby
        rw [show k / 4 = j by omega, show k % 4 = r by omega]
      generalize (wl s).getD j 0 = x at hcw hwl HB
      have hcs : wr.cell? ⟨w.heap.size + 1 + 1, k, none⟩ = some (.int .u8 0) := (cell_of hc k).trans (by rw [hcs, Array.getElem?_ofFn, dif_pos (by omega), if_neg (by simp)]; rfl)
      have hfz : wr.frozen? ⟨w.heap.size + 1 + 1, k, none⟩ = false := frozen_of hc k
      clear hkj
      go_wp2
      have hvl : (x : Int) / 2 ^ (8 * (3 - r)) % 256 = ((hby s k : Nat) : Int) := by rw [HB.out]; simp
      rw [hvl]
      refine ⟨⟨k + 1, by omega, by go_num, hnw.setCell _ _ (fun h => absurd h (by simp; omega)), (heap_set_ne (by omega) _).trans hv, (heap_set_ne (by omega) _).trans hz, ?_⟩, by simp [intOf]; omega⟩
      rw [← hcs_set s k hlt]
      exact heap_set hc _
    · obtain rfl : k = 32 := by omega
      go_wp2_with first
        | (refine wp_load_agg rfl (.tmp 3) 24 32 rfl Tryd.isAgg24 Tryd.sizeOf24 (w.heap.size + 1 + 1) 0 rfl (hcs s 32) 24 (0, 0) hc (hcs s 32) (hcs_size _ _) (fun j _ => by rw [Nat.zero_add]) ?_)
        | (refine wp_store_agg rfl (.tmp 2) (.tmp 21) 24 32 rfl Tryd.sizeOf24 (w.heap.size + 1) 0 rfl z32 24 hz (hcs s 32) rfl (hcs_size _ _) (hcs_one s 32) (by decide) (hcs s 32) (by rw [z32_drop]; simp) ?_; intro w4 j4 f4 z4)
      exact bodyPost_ret (results_cell Tryd.results62 Tryd.isAgg24 Tryd.sizeOf24 rfl j4 (hcs_size _ _)) rfl ⟨by rw [HR.out]; rfl, hnw.trans f4 (fun k hk q => by omega)⟩
end Go.Proofs.YtaeocbdphfkflaaDoor
namespace Go.Proofs.YtaeocbdphfkflaaDoor
open Go.RowKit
set_option linter.unusedVariables false
set_option linter.unusedSimpArgs false

/-- How many noughts follow. -/
def zc (n : Nat) : Nat := (120 - (n + 1) % 64) % 64
/-- A number as eight bytes. -/
def lby (n i : Nat) : UInt8 := UInt8.ofNat (n / 2 ^ (8 * (7 - i)))
def len8 (n : Nat) : List UInt8 := [lby n 0, lby n 1, lby n 2, lby n 3, lby n 4, lby n 5, lby n 6, lby n 7]
def pad (L : List UInt8) : List UInt8 := ((L ++ [128]) ++ List.replicate (zc L.length) 0) ++ len8 (8 * L.length)
/-- The words of SHA. -/
def sha (L : List UInt8) : V8 := st (pad L) ((pad L).length / 64)
theorem sha_ok (L : List UInt8) : (sha L).ok := st_ok _ _
def lcs (n t : Nat) : Array Value := Array.ofFn (n := 8) fun i => .int .u8 ((if i.val < t then (lby n i.val).toNat else 0 : Nat) : Int)
def zb8 : Array Value := Array.replicate 8 (.int .u8 0)
theorem lcs_0 (n : Nat) : lcs n 0 = zb8 := by
  apply Array.ext
  · simp [lcs, zb8]
  · intro i h1 h2
    simp [lcs, zb8]
theorem lcs_set (n t : Nat) (ht : t < 8) : (lcs n t).setIfInBounds t (.int .u8 (((lby n t).toNat : Nat) : Int)) = lcs n (t + 1) := by
  apply Array.ext
  · simp [lcs]
  · intro i h1 h2
    rw [Array.getElem_setIfInBounds (by simpa using h1)]
    simp only [lcs, Array.getElem_ofFn]
    by_cases h : t = i
    · subst h; simp
    · rw [if_neg h]
      have : (i < t + 1) = (i < t) := by apply propext; omega
      simp only [this]
theorem lby_val (n i : Nat) : (n : Int) / 2 ^ (8 * (7 - i)) % 256 = (((lby n i).toNat : Nat) : Int) := by
  rw [lby, UInt8.toNat_ofNat']
  simp
abbrev n64 : ByteArray := ⟨#[0, 0, 0, 0, 0, 0, 0, 0, 0, 0, 0, 0, 0, 0, 0, 0, 0, 0, 0, 0, 0, 0, 0, 0, 0, 0, 0, 0, 0, 0, 0, 0, 0, 0, 0, 0, 0, 0, 0, 0, 0, 0, 0, 0, 0, 0, 0, 0, 0, 0, 0, 0, 0, 0, 0, 0, 0, 0, 0, 0, 0, 0, 0, 0]⟩
theorem n64_list : n64.data.toList = List.replicate 64 0 := by kernel_rfl
theorem n64_cut (z : Nat) (hz : z ≤ 64) : (n64.extract 0 z).data.toList = List.replicate z 0 := by
  rw [ByteArray.data_extract, Array.toList_extract, n64_list]
  simp only [List.extract_eq_take_drop, Nat.sub_zero, List.drop_zero, List.take_replicate, Nat.min_eq_left hz]
theorem n64_size (z : Nat) (hz : z ≤ 64) : (n64.extract 0 z).size = z := by
  have h1 : (n64.extract 0 z).data.toList.length = (n64.extract 0 z).size := by rw [Array.length_toList]; rfl
  rw [← h1, n64_cut z hz, List.length_replicate]
theorem len_b8 : Tryd.prog.arrayLen 123 = 8 := by kernel_rfl
theorem elem_b8 : Tryd.prog.elem 123 = 5 := by kernel_rfl
theorem slice8 (bb : Nat) (w : World) : (Instr.sliceAt 123 (.pointer (some ⟨bb, 0, none⟩)) none none none).run Tryd.prog w = .ok (.slice (some ⟨bb, 0, none⟩) 8 8) w := by
  rw [run_sliceAt_array_all w _ _ (by rw [len_b8, elem_b8]; exact Tryd.underlying123), elem_b8, Tryd.sizeOf5 w, len_b8]
  rfl
theorem conv8 (bb n : Nat) (w : World) (h : w.heap[bb]? = some (.cells (lcs n 8) 123 (0, 0))) : (convert 87 9 (.slice (some ⟨bb, 0, none⟩) 8 8)).run Tryd.prog w = .ok (.string ⟨(len8 n).toArray⟩) w := by
  refine run_convert_bytes_back w 87 9 5 ⟨bb, 0, none⟩ 8 (len8 n) Tryd.underlying87 Tryd.underlying5 Tryd.underlying9 (fun j hj => ?_)
  rw [addZ, cell_of h]
  have hj8 : j < 8 := hj
  have hx : (len8 n)[j]'hj = lby n j := by
    have : j = 0 ∨ j = 1 ∨ j = 2 ∨ j = 3 ∨ j = 4 ∨ j = 5 ∨ j = 6 ∨ j = 7 := by omega
    rcases this with rfl | rfl | rfl | rfl | rfl | rfl | rfl | rfl <;> rfl
  rw [hx, lcs, Array.getElem?_ofFn, dif_pos hj8, if_pos hj8]
theorem Dig.cell {w : World} {d : Nat} {L : List UInt8} (h : Dig w d L) : w.cell? ⟨d, 73, none⟩ = some (.int .u64 (L.length : Int)) := by
  obtain ⟨blk, h1, h2, h3⟩ := h
  exact (cell_of h3 73).trans (dcs_73 _ _ _ h1)
theorem Dig.words {w : World} {d : Nat} {L : List UInt8} (h : Dig w d L) : ∀ j, j < 8 → w.cell? ⟨d, 1 + j, none⟩ = (vals (st L (L.length / 64)))[j]? := by
  obtain ⟨blk, h1, h2, h3⟩ := h
  intro j hj
  rw [cell_of h3, dcs_w _ _ _ _ hj]
theorem Ks.fr {w w' : World} {d : Nat} (h : Ks w) (k : Fr (fun k => k = d) w w') (hn : d ≠ 18) : Ks w' := fun i hi => (k.cell (World.block_lt_of_cell? w _ (h i hi)) (fun e => hn e.symm)).trans (h i hi)
theorem sha_eq {L M : List UInt8} (h : M = pad L) : st M (M.length / 64) = sha L := by rw [h]; rfl

set_option maxRecDepth 100000 in
set_option maxHeartbeats 1000000 in
theorem end_any (d : Nat) (L : List UInt8) (w : World) (hD : Dig w d L) (hK : Ks w) (hne : d ≠ 18) (hlen : L.length < 576460752303423488) :
    Calls Tryd.prog 51 #[.pointer (some ⟨d, 0, none⟩)] w fun e w' => e = .returned (hsh (sha L)) ∧ Fr (fun k => k = d) w w' := by
  have HK : Hid (Ks w) := hK
  have HN : Hid (d ≠ 18) := hne
  clear hK hne
  obtain ⟨R, hR⟩ : ∃ R, R = hsh (sha L) := ⟨_, rfl⟩
  rw [← hR]
  have HR : Hid (R = hsh (sha L)) := hR
  clear hR
  have hcell := hD.cell
  have hdl := hD.lt
  have hdn : ¬ d = w.heap.size := by omega
  have HD : Hid (Dig w d L) := hD
  clear hD
  obtain ⟨N, hN⟩ : ∃ N, N = 8 * L.length := ⟨_, rfl⟩
  have hmul : IntKind.u64.wrap (8 * (L.length : Int)) = (N : Int) := by rw [IntKind.wrap_u64]; omega
  have hmul2 : 8 * (L.length : Int) = (N : Int) := by omega
  have hNl : (N : Int) < 4611686018427387904 := by omega
  have HNN : Hid (N = 8 * L.length) := hN
  clear hN
  go_enter Tryd.func51, Tryd.ntmps51
  go_wp2_with fail
  have z0 := (heap_new w (.cells #[.int .u8 0, .int .u8 0, .int .u8 0, .int .u8 0, .int .u8 0, .int .u8 0, .int .u8 0, .int .u8 0, .int .u8 0, .int .u8 0, .int .u8 0, .int .u8 0, .int .u8 0, .int .u8 0, .int .u8 0, .int .u8 0, .int .u8 0, .int .u8 0, .int .u8 0, .int .u8 0, .int .u8 0, .int .u8 0, .int .u8 0, .int .u8 0, .int .u8 0, .int .u8 0, .int .u8 0, .int .u8 0, .int .u8 0, .int .u8 0, .int .u8 0, .int .u8 0] 24)).trans (show _ = some (.cells z32 24 (0, 0)) by kernel_rfl)
  have n0 : Nw w (w.alloc (.cells #[.int .u8 0, .int .u8 0, .int .u8 0, .int .u8 0, .int .u8 0, .int .u8 0, .int .u8 0, .int .u8 0, .int .u8 0, .int .u8 0, .int .u8 0, .int .u8 0, .int .u8 0, .int .u8 0, .int .u8 0, .int .u8 0, .int .u8 0, .int .u8 0, .int .u8 0, .int .u8 0, .int .u8 0, .int .u8 0, .int .u8 0, .int .u8 0, .int .u8 0, .int .u8 0, .int .u8 0, .int .u8 0, .int .u8 0, .int .u8 0, .int .u8 0, .int .u8 0] 24)) := (Fr.refl _ _).alloc _
  generalize (w.alloc (.cells #[.int .u8 0, .int .u8 0, .int .u8 0, .int .u8 0, .int .u8 0, .int .u8 0, .int .u8 0, .int .u8 0, .int .u8 0, .int .u8 0, .int .u8 0, .int .u8 0, .int .u8 0, .int .u8 0, .int .u8 0, .int .u8 0, .int .u8 0, .int .u8 0, .int .u8 0, .int .u8 0, .int .u8 0, .int .u8 0, .int .u8 0, .int .u8 0, .int .u8 0, .int .u8 0, .int .u8 0, .int .u8 0, .int .u8 0, .int .u8 0, .int .u8 0, .int .u8 0] 24)) = w0 at z0 n0 ⊢
  have D0 := HD.out.keep n0 (fun f => f)
  have q1 := take_any d L ⟨#[128]⟩ w0 D0 (HK.out.nw n0) HN.out (by show L.length + 1 < _; omega)
  refine q1.mono ?_
  rintro e1 w1 ⟨rfl, D1, f1⟩
  have z1 := (f1.block w.heap.size (heap_lt z0) (fun e => hdn e.symm)).trans z0
  have g1 : Fr (fun k => k = d) w w1 := (n0.mono (fun _ _ f => f.elim)).trans f1 (fun _ _ q => q)
  clear q1 z0 f1 D0 n0
  obtain ⟨L1, hL1⟩ : ∃ L1, L1 = L ++ [128] := ⟨_, rfl⟩
  have D1' : Dig w1 d L1 := by rw [hL1]; exact D1
  have hl1 : L1.length = L.length + 1 := by rw [hL1]; simp
  have HL1 : Hid (L1 = L ++ [128]) := hL1
  have HD1 : Hid (Dig w1 d L1) := D1'
  clear D1 D1' hL1
  go_wp2_with fail
  have q2 := filled_any d L1.length (by omega) w1 HD1.out.cell
  obtain ⟨r, hr⟩ : ∃ r, r = L1.length % 64 := ⟨_, rfl⟩
  rw [← hr] at q2
  refine q2.mono ?_
  rintro e2 w2 ⟨rfl, rfl⟩
  clear q2
  have hr64 : r < 64 := by omega
  obtain ⟨z, hz⟩ : ∃ z, z = (120 - r) % 64 := ⟨_, rfl⟩
  have hz64 : z < 64 := by omega
  have HZ : Hid (z = zc L.length) := by unfold Hid zc; rw [hz, hr, hl1]
  have et : ((120 : Int) - (r : Int)) % 64 = (z : Int) := by omega
  have et2 : ((120 : Int) - (r : Int)).tmod 64 = (z : Int) := by rw [Int.tmod_eq_emod_of_nonneg (by omega)]; exact et
  have hzs : (z : Int) ≤ 64 := by omega
  clear hz hr
  go_wp2_with fail
  have q3 := take_any d L1 (n64.extract 0 z) w2 HD1.out (HK.out.fr g1 HN.out) HN.out (by rw [n64_size z (by omega)]; omega)
  rw [n64_cut z (by omega)] at q3
  refine q3.mono ?_
  rintro e3 w3 ⟨rfl, D3, f3⟩
  have z3 := (f3.block w.heap.size (heap_lt z1) (fun e => hdn e.symm)).trans z1
  have g3 : Fr (fun k => k = d) w w3 := g1.trans f3 (fun _ _ q => q)
  clear q3 z1 f3 et et2 HD1 hcell hmul hmul2
  obtain ⟨L3, hL3⟩ : ∃ L3, L3 = L1 ++ List.replicate z 0 := ⟨_, rfl⟩
  have D3' : Dig w3 d L3 := by rw [hL3]; exact D3
  have hl3 : L3.length = L1.length + z := by rw [hL3]; simp
  have HL3 : Hid (L3 = L1 ++ List.replicate z 0) := hL3
  have HD3 : Hid (Dig w3 d L3) := D3'
  clear D3 D3' hL3
  have hs3 := g3.size
  have hz3 := heap_lt z3
  go_wp2
  go_loopw [20] (fun i wr => ∃ k : Nat, k ≤ 8 ∧ i = .int .i64 k ∧ Nw w3 wr ∧ wr.heap[w3.heap.size]? = some (.cells (lcs N k) 123 (0, 0))) (fun i _ => 8 - (intOf i).toNat)
  case atStart =>
    refine ⟨0, by omega, rfl, (Fr.refl _ _).alloc _, ?_⟩
    rw [lcs_0]
    exact (heap_new w3 _).trans (by kernel_rfl)
  case round =>
    obtain ⟨k, hk, rfl, hnw, hc⟩ := hrel
    by_cases hlt : k < 8
    · have hki : (k : Int) < 8 := by omega
      have hcs : wr.cell? ⟨w3.heap.size, k, none⟩ = some (.int .u8 0) := (cell_of hc k).trans (by rw [lcs, Array.getElem?_ofFn, dif_pos (by omega), if_neg (by simp)]; rfl)
      have hfz : wr.frozen? ⟨w3.heap.size, k, none⟩ = false := frozen_of hc k
      go_wp2
      rw [lby_val]
      refine ⟨⟨k + 1, by omega, by go_num, hnw.setCell _ _ (fun h => absurd h (by simp)), ?_⟩, by simp [intOf]; omega⟩
      rw [← lcs_set N k hlt]
      exact heap_set hc _
    · obtain rfl : k = 8 := by omega
      have hsl := slice8 w3.heap.size wr
      have hcv := conv8 w3.heap.size N wr hc
      have Dr := HD3.out.keep hnw (fun f => f)
      have zr := (hnw.block w.heap.size hz3 (fun f => f)).trans z3
      have gr : Fr (fun k => k = d) w wr := g3.trans (hnw.mono (fun _ _ f => f.elim)) (fun _ _ q => q)
      have HDr : Hid (Dig wr d L3) := Dr
      clear Dr
      go_wp2_with fail
      have q5 := take_any d L3 ⟨(len8 N).toArray⟩ wr HDr.out (HK.out.fr gr HN.out) HN.out (by show L3.length + 8 < _; omega)
      refine q5.mono ?_
      rintro e5 w5 ⟨rfl, D5, f5⟩
      have z5 := (f5.block w.heap.size (heap_lt zr) (fun e => hdn e.symm)).trans zr
      have g5 : Fr (fun k => k = d) w w5 := gr.trans f5 (fun _ _ q => q)
      have D5' : Dig w5 d (L3 ++ len8 N) := D5
      have HP : Hid (L3 ++ len8 N = pad L) := by unfold Hid pad; rw [HL3.out, HL1.out, HZ.out, HNN.out]
      obtain ⟨b5, h51, h52, h53⟩ := D5'
      obtain ⟨T, hT⟩ : ∃ T, T = st (L3 ++ len8 N) ((L3 ++ len8 N).length / 64) := ⟨_, rfl⟩
      rw [← hT] at h53
      have HT : Hid (T = sha L) := by unfold Hid; rw [hT]; exact sha_eq HP.out
      have hTok : T.ok := by rw [hT]; exact st_ok _ _
      clear hT q5 f5 D5 h52 zr gr hcv hsl hc hnw z3
      generalize (L3 ++ len8 N).length = m5 at h53
      go_wp2_with first
        | (refine wp_load_agg rfl (.tmp 38) 99 8 rfl Tryd.isAgg99 Tryd.sizeOf99 d 1 rfl (dcs T b5 m5) tD (0, 0) h53 (vals T) rfl (fun j hj => dcs_w T b5 m5 j hj) ?_)
        | (go_at_call 62; refine (asHash_any T hTok w5).mono ?_; rintro e6 w6 ⟨rfl, n6⟩; have z6 := (n6.block w.heap.size (heap_lt z5) (fun f => f)).trans z5; unfold hsh)
        | (refine wp_store_agg rfl (.tmp 2) (.tmp 40) 24 32 rfl Tryd.sizeOf24 w.heap.size 0 rfl z32 24 z6 (hcs T 32) rfl (hcs_size _ _) (hcs_one T 32) (by decide) (hcs T 32) (by rw [z32_drop]; simp) ?_; intro w7 j7 f7 z7)
      exact bodyPost_ret (results_cell Tryd.results51 Tryd.isAgg24 Tryd.sizeOf24 rfl j7 (hcs_size _ _)) rfl ⟨by rw [HR.out, ← HT.out]; rfl, (g5.trans (n6.mono (fun _ _ f => f.elim)) (fun _ _ q => q)).trans f7 (fun k hk q => by omega)⟩
end Go.Proofs.YtaeocbdphfkflaaDoor
namespace Go.Proofs.YtaeocbdphfkflaaDoor
open Go.RowKit
set_option linter.unusedVariables false
set_option linter.unusedSimpArgs false

/-- The beginning lies where the program lays it. -/
def Bg (w : World) : Prop := ∀ i, i < 8 → w.cell? ⟨16, i, none⟩ = (vals H0)[i]?
theorem Bg.fr {w w' : World} {d : Nat} (h : Bg w) (k : Fr (fun k => k = d) w w') (hn : d ≠ 16) : Bg w' := fun i hi => by
  obtain ⟨u, hu⟩ : ∃ u, (vals H0)[i]? = some u := ⟨_, vals_at H0 i hi⟩
  have h1 := (h i hi).trans hu
  rw [(k.cell (World.block_lt_of_cell? w _ h1) (fun e => hn e.symm)), h i hi]
theorem Bg.nw {w w' : World} (h : Bg w) (k : Nw w w') : Bg w' := fun i hi => by
  obtain ⟨u, hu⟩ : ∃ u, (vals H0)[i]? = some u := ⟨_, vals_at H0 i hi⟩
  rw [k.cellOf ((h i hi).trans hu), hu]
/-- What is laid: both tables. -/
structure Laid (w : World) : Prop where
  k : Ks w
  b : Bg w
theorem Laid.nw {w w' : World} (h : Laid w) (k : Nw w w') : Laid w' := ⟨h.k.nw k, h.b.nw k⟩
theorem Laid.lt {w : World} (h : Laid w) : 19 ≤ w.heap.size := by
  have h1 := World.block_lt_of_cell? w _ (h.k 0 (by decide))
  have h2 := World.block_lt_of_cell? w _ ((h.b 0 (by decide)).trans (vals_at H0 0 (by decide)))
  have e1 : w.heap.size > 18 := h1
  have e2 : w.heap.size > 16 := h2
  omega
theorem Laid.fr {w w' : World} {d : Nat} (h : Laid w) (k : Fr (fun k => k = d) w w') (hd : 19 ≤ d) : Laid w' := ⟨h.k.fr k (by omega), h.b.fr k (by omega)⟩
/-- Nothing yet. -/
abbrev d0 : Array Value := dcs H0 (List.replicate 64 0) 0
theorem dig_new {w : World} {d : Nat} (h : w.heap[d]? = some (.cells d0 tD (0, 0))) : Dig w d [] := ⟨List.replicate 64 0, by simp, rfl, h⟩

theorem d0_eq : (Array.foldl (fun cs (x : Value × Nat) => cs.setIfInBounds (1 + x.snd) x.fst) (Tryd.zeroCells102.setIfInBounds 0 (Value.bool true)) (vals H0).zipIdx 0 (vals H0).size) = d0 := by kernel_rfl
theorem dcs_one (s : V8) (blk : List UInt8) (n : Nat) : ∀ u ∈ (dcs s blk n).toList, u.oneCell' = true := by
  intro u hu
  simp only [dcs, List.toList_toArray, List.mem_cons, List.mem_append, List.not_mem_nil, or_false] at hu
  rcases hu with rfl | h | h | rfl
  · rfl
  · exact vals_one s u h
  · obtain ⟨b, _, rfl⟩ := List.mem_map.1 h; rfl
  · rfl
theorem zc_d : Tryd.zeroCells102.toList.drop (0 + 74) = [] := by kernel_rfl
theorem zc_s : Tryd.zeroCells102.size = 74 := by kernel_rfl
end Go.Proofs.YtaeocbdphfkflaaDoor
namespace Go.Proofs.YtaeocbdphfkflaaDoor
open Go.RowKit
set_option linter.unusedVariables false
set_option linter.unusedSimpArgs false

/-- Texts, one behind the other. -/
def cat (ss : List ByteArray) : List UInt8 := ss.flatMap fun x => x.data.toList
theorem cat_step (ss : List ByteArray) (k : Nat) (x : ByteArray) (h : ss[k]? = some x) : cat (ss.take (k + 1)) = cat (ss.take k) ++ x.data.toList := by
  rw [List.take_add_one, h]
  simp [cat]
theorem cat_len (ss : List ByteArray) (k : Nat) : (cat (ss.take k)).length ≤ (cat ss).length := by
  have h : cat ss = cat (ss.take k) ++ cat (ss.drop k) := by
    rw [cat, cat, cat, ← List.flatMap_append, List.take_append_drop]
  rw [h, List.length_append]; omega
/-- Texts in memory. -/
def Strs (w : World) (p : Option Addr) (ss : List ByteArray) : Prop := ∀ (j : Nat) (x : ByteArray), ss[j]? = some x → ∃ g o, p = some ⟨g, o, none⟩ ∧ w.cell? ⟨g, o + j, none⟩ = some (.string x)
theorem Strs.nw {w w' : World} {p : Option Addr} {ss : List ByteArray} (h : Strs w p ss) (k : Nw w w') : Strs w' p ss := fun j x hx => by
  obtain ⟨g, o, hp, hc⟩ := h j x hx
  exact ⟨g, o, hp, k.cellOf hc⟩
def z32l : Array Value := #[.int .u8 0, .int .u8 0, .int .u8 0, .int .u8 0, .int .u8 0, .int .u8 0, .int .u8 0, .int .u8 0, .int .u8 0, .int .u8 0, .int .u8 0, .int .u8 0, .int .u8 0, .int .u8 0, .int .u8 0, .int .u8 0, .int .u8 0, .int .u8 0, .int .u8 0, .int .u8 0, .int .u8 0, .int .u8 0, .int .u8 0, .int .u8 0, .int .u8 0, .int .u8 0, .int .u8 0, .int .u8 0, .int .u8 0, .int .u8 0, .int .u8 0, .int .u8 0]
theorem z32_eq : z32l = z32 := by kernel_rfl
theorem zd_size : (Tryd.zeroCells102).toList.drop (0 + 74) = [] := zc_d
theorem d0_one : ∀ u ∈ d0.toList, u.oneCell' = true := dcs_one _ _ _
theorem d0_size : d0.size = 74 := dcs_size _ _ _ (by simp)

set_option maxRecDepth 100000 in
set_option maxHeartbeats 1000000 in
theorem sums_any (p : Option Addr) (cap : Nat) (ss : List ByteArray) (w : World) (hp : Strs w p ss) (hL : Laid w) (hlen : (cat ss).length < 576460752303423488) (hcnt : ss.length < 4611686018427387904) :
    Calls Tryd.prog 44 #[.slice p ss.length cap] w fun e w' => e = .returned (hsh (sha (cat ss))) ∧ Nw w w' := by
  have HP : Hid (Strs w p ss) := hp
  have HL : Hid (Laid w) := hL
  have HN : Hid ((cat ss).length < 576460752303423488) := hlen
  have hs2 := hL.lt
  clear hp hL hlen
  obtain ⟨n, hn⟩ : ∃ n, n = ss.length := ⟨_, rfl⟩
  rw [← hn] at hcnt ⊢
  have Hn : Hid (n = ss.length) := hn
  clear hn
  go_enter Tryd.func44, Tryd.ntmps44
  go_wp2_with first
    | (refine wp_load_cells rfl (.global 16) 99 8 rfl Tryd.isAgg99 Tryd.sizeOf99 16 0 rfl (vals H0) rfl (fun j u hj => by rw [Nat.zero_add, HL.out.b.nw ((Fr.refl _ _).alloc _) j (by have := (Array.getElem?_eq_some_iff.1 hj).1; simpa [vals] using this)]; exact hj) ?_)
    | (refine wp_store_agg rfl (.tmp 3) (.tmp 7) 102 74 rfl Tryd.sizeOf102 (w.heap.size + 1) 0 rfl _ 102 (heap_next w _ _) d0 (by show Value.agg _ = Value.agg _; exact congrArg Value.agg d0_eq) d0_size d0_one (by first | decide | exact Nat.le_refl _ | kernel_rfl) d0 (by simp [zc_d]) ?_; intro w5 j5 f5 z5)
  have hz5 : w5.heap[w.heap.size]? = some (.cells z32 24 (0, 0)) := (f5.block w.heap.size (by simp; omega) (by omega)).trans ((Below.heap_alloc _ _ _ (by simp)).trans ((heap_new w _).trans (by kernel_rfl)))
  have n5 : Nw w w5 := (((Fr.refl _ _).alloc _).alloc _).trans f5 (fun k hk q => by omega)
  clear f5 z5 h
  generalize (Array.foldl (fun cs (x : Value × Nat) => cs.setIfInBounds (1 + x.snd) x.fst) (Tryd.zeroCells102.setIfInBounds 0 (Value.bool true)) (vals H0).zipIdx 0 (vals H0).size) = dd
  generalize vals H0 = vh
  go_loopw [10] (fun i wr => ∃ k : Nat, k ≤ n ∧ i = .int .i64 k ∧ Nw w wr ∧ Dig wr (w.heap.size + 1) (cat (ss.take k)) ∧ wr.heap[w.heap.size]? = some (.cells z32 24 (0, 0))) (fun i _ => n - (intOf i).toNat)
  case atStart => exact ⟨0, by omega, rfl, n5, dig_new j5, hz5⟩
  case round =>
    clear n5 j5 hz5
    obtain ⟨k, hk, rfl, hnw, hD, hz⟩ := hrel
    have HD : Hid (Dig wr (w.heap.size + 1) (cat (ss.take k))) := hD
    clear hD
    by_cases hlt : k < n
    · have hx : ss[k]? = some (ss[k]'(by have := Hn.out; omega)) := List.getElem?_eq_getElem _
      generalize ss[k]'(by have := Hn.out; omega) = x at hx
      obtain ⟨g, o, rfl, hc⟩ := HP.out k x hx
      have hc2 := hnw.cellOf hc
      have hst : Hid (cat (ss.take (k + 1)) = cat (ss.take k) ++ x.data.toList) := cat_step ss k x hx
      have hln := cat_len ss (k + 1)
      rw [hst.out, List.length_append] at hln
      have hxl : x.data.toList.length = x.size := by rw [Array.length_toList]; rfl
      have hl2 : (cat (ss.take k)).length + x.size < 4611686018427387904 := by have := HN.out; omega
      clear hln hxl hx hc
      have hki : (k : Int) < (n : Int) := by omega
      go_wp2_with fail
      refine (take_any (w.heap.size + 1) (cat (ss.take k)) x wr HD.out (HL.out.k.nw hnw) (by omega) hl2).mono ?_
      rintro e6 w6 ⟨rfl, D6, f6⟩
      go_wp2
      refine ⟨⟨k + 1, by omega, by go_num, hnw.trans f6 (fun k hk q => by omega), by rw [hst.out]; exact D6, ?_⟩, by simp [intOf]; omega⟩
      exact (f6.block w.heap.size (heap_lt hz) (by omega)).trans hz
    · have HE : Hid (cat (ss.take k) = cat ss) := by unfold Hid; rw [List.take_of_length_le (by have := Hn.out; omega)]
      have HD2 : Hid (Dig wr (w.heap.size + 1) (cat ss)) := by unfold Hid; rw [← HE.out]; exact HD.out
      have hge : ¬ (k : Int) < (n : Int) := by omega
      clear HD HE hlt
      go_wp2_with first
        | (go_at_call 51; refine (end_any (w.heap.size + 1) (cat ss) wr HD2.out (HL.out.k.nw hnw) (by omega) HN.out).mono ?_; rintro e6 w6 ⟨rfl, f6⟩; have z6 := (f6.block w.heap.size (heap_lt hz) (by omega)).trans hz; unfold hsh)
        | (refine wp_store_agg rfl (.tmp 2) (.tmp 17) 24 32 rfl Tryd.sizeOf24 w.heap.size 0 rfl z32 24 z6 (hcs (sha (cat ss)) 32) rfl (hcs_size _ _) (hcs_one _ 32) (by decide) (hcs (sha (cat ss)) 32) (by rw [z32_drop]; simp) ?_; intro w7 j7 f7 z7)
      exact bodyPost_ret (results_cell Tryd.results44 Tryd.isAgg24 Tryd.sizeOf24 rfl j7 (hcs_size _ _)) rfl ⟨rfl, (hnw.trans f6 (fun k hk q => by omega)).trans f7 (fun k hk q => by omega)⟩
end Go.Proofs.YtaeocbdphfkflaaDoor
