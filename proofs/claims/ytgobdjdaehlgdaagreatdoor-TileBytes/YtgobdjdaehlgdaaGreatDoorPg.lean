/- SHA, as a function of bytes: the words of a round. -/
import Derived.Test.YtgobdjdaehlgdaaGreatDoorBase
import Derived.Laws.BitsAllLaws
import Derived.Test.YtgobdjdaehlgdaaGreatDoorAg
import Derived.BigRegion
import Derived.Deep.RegionHeld3
import Derived.Laws.CopyOwn
namespace Go.Proofs.YtgobdjdaehlgdaaGreatDoor
open Go.RowKit
set_option linter.unusedVariables false
set_option linter.unusedSimpArgs false

/-- What the walk shall not use. -/
def Hid (p : Prop) : Prop := p
theorem Hid.out {p : Prop} (h : Hid p) : p := h

/-- Turned right. -/
def rr (x : Nat) (n : Int) : Nat := x / 2 ^ n.toNat ||| x * 2 ^ (32 - n.toNat) % 4294967296
def ad (x y : Nat) : Nat := (x + y) % 4294967296
def xo (x y : Nat) : Nat := x ^^^ y
def an (x y : Nat) : Nat := x &&& y
def no (x : Nat) : Nat := 4294967295 - x
def S1 (e : Nat) : Nat := xo (xo (rr e 6) (rr e 11)) (rr e 25)
def S0 (a : Nat) : Nat := xo (xo (rr a 2) (rr a 13)) (rr a 22)
def s0 (x : Nat) : Nat := xo (xo (rr x 7) (rr x 18)) (x / 8)
def s1 (x : Nat) : Nat := xo (xo (rr x 17) (rr x 19)) (x / 1024)
def ch (e f g : Nat) : Nat := xo (an e f) (an (no e) g)
def mj (a b c : Nat) : Nat := xo (xo (an a b) (an a c)) (an b c)
/-- A word. -/
abbrev Wd (x : Nat) : Prop := x < 4294967296
theorem rr_lt (x : Nat) (n : Int) (h : Wd x) : Wd (rr x n) := by
  have h1 : x / 2 ^ n.toNat < 2 ^ 32 := Nat.lt_of_le_of_lt (Nat.div_le_self _ _) h
  have h2 : x * 2 ^ (32 - n.toNat) % 4294967296 < 2 ^ 32 := Nat.mod_lt _ (by decide)
  exact Nat.or_lt_two_pow h1 h2
theorem ad_lt (x y : Nat) : Wd (ad x y) := Nat.mod_lt _ (by decide)
theorem xo_lt (x y : Nat) (hx : Wd x) (hy : Wd y) : Wd (xo x y) := Nat.xor_lt_two_pow (n := 32) hx hy
theorem an_lt (x y : Nat) (hy : Wd y) : Wd (an x y) := Nat.and_lt_two_pow (n := 32) _ hy
theorem no_lt (x : Nat) : Wd (no x) := by unfold no Wd; omega
theorem S1_lt (x : Nat) (h : Wd x) : Wd (S1 x) := xo_lt _ _ (xo_lt _ _ (rr_lt _ _ h) (rr_lt _ _ h)) (rr_lt _ _ h)
theorem S0_lt (x : Nat) (h : Wd x) : Wd (S0 x) := xo_lt _ _ (xo_lt _ _ (rr_lt _ _ h) (rr_lt _ _ h)) (rr_lt _ _ h)
theorem dv_lt (x k : Nat) (h : Wd x) : Wd (x / k) := Nat.lt_of_le_of_lt (Nat.div_le_self _ _) h
theorem s1_lt (x : Nat) (h : Wd x) : Wd (s1 x) := xo_lt _ _ (xo_lt _ _ (rr_lt _ _ h) (rr_lt _ _ h)) (dv_lt _ _ h)
theorem s0_lt (x : Nat) (h : Wd x) : Wd (s0 x) := xo_lt _ _ (xo_lt _ _ (rr_lt _ _ h) (rr_lt _ _ h)) (dv_lt _ _ h)
theorem ch_lt (e f g : Nat) (hf : Wd f) (hg : Wd g) : Wd (ch e f g) := xo_lt _ _ (an_lt _ _ hf) (an_lt _ _ hg)
theorem mj_lt (a b c : Nat) (hb : Wd b) (hc : Wd c) : Wd (mj a b c) := xo_lt _ _ (xo_lt _ _ (an_lt _ _ hb) (an_lt _ _ hc)) (an_lt _ _ hc)
/- The same, as the model has them. -/
theorem b_xo (x y : Nat) (hx : Wd x) (hy : Wd y) : bits .xor .u32 (x : Int) (y : Int) = ((xo x y : Nat) : Int) := u32_xor_nat x y hx hy
theorem b_an (x y : Nat) (hx : Wd x) (hy : Wd y) : bits .and .u32 (x : Int) (y : Int) = ((an x y : Nat) : Int) := u32_and_nat x y hx hy
theorem no_xor (x : Nat) (hx : Wd x) : 4294967295 ^^^ x = no x := by
  have h1 := congrArg BitVec.toNat (BitVec.allOnes_xor (x := BitVec.ofNat 32 x))
  rw [BitVec.toNat_xor, BitVec.toNat_not, BitVec.toNat_ofNat, Nat.mod_eq_of_lt hx, BitVec.toNat_allOnes] at h1
  exact h1
theorem b_no (x : Nat) (hx : Wd x) : bits .xor .u32 4294967295 (x : Int) = ((no x : Nat) : Int) := by
  have := u32_xor_nat 4294967295 x (by decide) hx
  rw [no_xor x hx] at this
  exact this
theorem m_no (x : Nat) (hx : Wd x) : bits .xor .u32 IntKind.u32.max (x : Int) = ((no x : Nat) : Int) := b_no x hx
theorem i_no (x : Nat) (hx : Wd x) : bits .xor .u32 (if IntKind.u32.signed = true then -1 else IntKind.u32.max) (x : Int) = ((no x : Nat) : Int) := b_no x hx
theorem b_ad (x y : Nat) : ((x : Int) + (y : Int)) % 4294967296 = ((ad x y : Nat) : Int) := by unfold ad; omega
theorem w_ad (x y : Nat) : IntKind.u32.wrap ((x : Int) + (y : Int)) = ((ad x y : Nat) : Int) := by rw [IntKind.wrap_u32']; exact b_ad x y

/-- By how much the words are turned. -/
abbrev Rn (n : Int) : Prop := n = 2 ∨ n = 6 ∨ n = 7 ∨ n = 11 ∨ n = 13 ∨ n = 17 ∨ n = 18 ∨ n = 19 ∨ n = 22 ∨ n = 25
theorem or_rr (x : Nat) (p q m : Nat) (n : Int) (hx : Wd x) (hn : n.toNat = m) (hp : 2 ^ m = p) (hq : 2 ^ (32 - m) = q) : bits .or .u32 ((x : Int) * (q : Nat) % 4294967296) ((x : Int) / (p : Nat)) = ((rr x n : Nat) : Int) := by
  have h1 : ((x : Int) * (q : Nat) % 4294967296) = ((x * q % 4294967296 : Nat) : Int) := by simp
  have h2 : ((x : Int) / (p : Nat)) = ((x / p : Nat) : Int) := by simp
  rw [h1, h2, u32_or_nat _ _ (Nat.mod_lt _ (by decide)) (dv_lt _ _ hx)]
  unfold rr
  rw [hn, hp, hq, Nat.or_comm]
theorem or_rr2 (x : Nat) (p q m : Nat) (n : Int) (hx : Wd x) (hn : n.toNat = m) (hp : 2 ^ m = p) (hq : 2 ^ (32 - m) = q) : bits .or .u32 ((x : Int) / (p : Nat)) ((x : Int) * (q : Nat) % 4294967296) = ((rr x n : Nat) : Int) := by
  have h1 : ((x : Int) * (q : Nat) % 4294967296) = ((x * q % 4294967296 : Nat) : Int) := by simp
  have h2 : ((x : Int) / (p : Nat)) = ((x / p : Nat) : Int) := by simp
  rw [h1, h2, u32_or_nat _ _ (dv_lt _ _ hx) (Nat.mod_lt _ (by decide))]
  unfold rr
  rw [hn, hp, hq]

end Go.Proofs.YtgobdjdaehlgdaaGreatDoor
namespace Go.Proofs.YtgobdjdaehlgdaaGreatDoor
open Go.RowKit
set_option linter.unusedVariables false
set_option linter.unusedSimpArgs false

/-- Eight words. -/
structure V8 where
  (a b c d e f g h : Nat)
structure V8.ok (s : V8) : Prop where
  a : Wd s.a
  b : Wd s.b
  c : Wd s.c
  d : Wd s.d
  e : Wd s.e
  f : Wd s.f
  g : Wd s.g
  h : Wd s.h
def tw (k w : Nat) (s : V8) : Nat := ad (ad (ad (ad s.h (S1 s.e)) (ch s.e s.f s.g)) k) w
def uw (s : V8) : Nat := ad (S0 s.a) (mj s.a s.b s.c)
def step (k w : Nat) (s : V8) : V8 := ⟨ad (tw k w s) (uw s), s.a, s.b, s.c, ad s.d (tw k w s), s.e, s.f, s.g⟩
def rounds (K W : Nat → Nat) (s : V8) : Nat → V8
  | 0 => s
  | n + 1 => step (K n) (W n) (rounds K W s n)
def add8 (s t : V8) : V8 := ⟨ad s.a t.a, ad s.b t.b, ad s.c t.c, ad s.d t.d, ad s.e t.e, ad s.f t.f, ad s.g t.g, ad s.h t.h⟩
theorem step_ok (k w : Nat) (s : V8) (h : s.ok) : (step k w s).ok := ⟨ad_lt _ _, h.a, h.b, h.c, ad_lt _ _, h.e, h.f, h.g⟩
theorem rounds_ok (K W : Nat → Nat) (s : V8) (h : s.ok) : ∀ n, (rounds K W s n).ok
  | 0 => h
  | n + 1 => step_ok _ _ _ (rounds_ok K W s h n)
theorem add8_ok (s t : V8) : (add8 s t).ok := ⟨ad_lt _ _, ad_lt _ _, ad_lt _ _, ad_lt _ _, ad_lt _ _, ad_lt _ _, ad_lt _ _, ad_lt _ _⟩
/-- The words as values. -/
abbrev u32v (x : Nat) : Value := .int .u32 (x : Int)
def vals (s : V8) : Array Value := #[u32v s.a, u32v s.b, u32v s.c, u32v s.d, u32v s.e, u32v s.f, u32v s.g, u32v s.h]
def z8 : Array Value := #[u32v 0, u32v 0, u32v 0, u32v 0, u32v 0, u32v 0, u32v 0, u32v 0]
def Kl : List Nat := [1116352408, 1899447441, 3049323471, 3921009573, 961987163, 1508970993, 2453635748, 2870763221, 3624381080, 310598401, 607225278, 1426881987, 1925078388, 2162078206, 2614888103, 3248222580, 3835390401, 4022224774, 264347078, 604807628, 770255983, 1249150122, 1555081692, 1996064986, 2554220882, 2821834349, 2952996808, 3210313671, 3336571891, 3584528711, 113926993, 338241895, 666307205, 773529912, 1294757372, 1396182291, 1695183700, 1986661051, 2177026350, 2456956037, 2730485921, 2820302411, 3259730800, 3345764771, 3516065817, 3600352804, 4094571909, 275423344, 430227734, 506948616, 659060556, 883997877, 958139571, 1322822218, 1537002063, 1747873779, 1955562222, 2024104815, 2227730452, 2361852424, 2428436474, 2756734187, 3204031479, 3329325298]
def Kc (i : Nat) : Nat := Kl.getD i 0
theorem Kc_lt (i : Nat) : Wd (Kc i) := by
  unfold Kc
  rcases Nat.lt_or_ge i Kl.length with h | h
  · rw [List.getD_eq_getElem?_getD, List.getElem?_eq_getElem h]
    have : ∀ x ∈ Kl, x < 4294967296 := by decide +kernel
    exact this _ (List.getElem_mem h)
  · rw [List.getD_eq_getElem?_getD, List.getElem?_eq_none h]; decide
end Go.Proofs.YtgobdjdaehlgdaaGreatDoor
namespace Go.Proofs.YtgobdjdaehlgdaaGreatDoor
open Go.RowKit
set_option linter.unusedVariables false
set_option linter.unusedSimpArgs false

/-- Bytes as a word. -/
def wd (a b c d : Nat) : Nat := a * 16777216 + b * 65536 + c * 256 + d
def nxt (l : List Nat) (t : Nat) : Nat := ad (ad (ad (l.getD (t - 16) 0) (s0 (l.getD (t - 15) 0))) (l.getD (t - 7) 0)) (s1 (l.getD (t - 2) 0))
/-- The first words of a block. -/
def ws (B : Nat → Nat) : Nat → List Nat
  | 0 => []
  | t + 1 => ws B t ++ [if t < 16 then wd (B (4 * t)) (B (4 * t + 1)) (B (4 * t + 2)) (B (4 * t + 3)) else nxt (ws B t) t]
def Wf (B : Nat → Nat) (i : Nat) : Nat := (ws B 64).getD i 0
theorem ws_len (B : Nat → Nat) : ∀ t, (ws B t).length = t
  | 0 => rfl
  | t + 1 => by rw [ws, List.length_append, ws_len B t]; rfl
theorem ws_get (B : Nat → Nat) (i t : Nat) (h : i < t) : ∀ m, (ws B (t + m)).getD i 0 = (ws B t).getD i 0
  | 0 => rfl
  | m + 1 => by
    rw [← Nat.add_assoc, ws, List.getD_eq_getElem?_getD, List.getElem?_append_left (by rw [ws_len]; omega), ← List.getD_eq_getElem?_getD]
    exact ws_get B i t h m
theorem ws_at (B : Nat → Nat) (i t : Nat) (h : i < t) (ht : t ≤ 64) : (ws B t).getD i 0 = Wf B i := by
  have := ws_get B i t h (64 - t)
  rw [show t + (64 - t) = 64 by omega] at this
  exact this.symm
theorem Wf_eq (B : Nat → Nat) (t : Nat) (ht : t < 64) : Wf B t = if t < 16 then wd (B (4 * t)) (B (4 * t + 1)) (B (4 * t + 2)) (B (4 * t + 3)) else nxt (ws B t) t := by
  rw [← ws_at B t (t + 1) (by omega) (by omega), ws, List.getD_eq_getElem?_getD, List.getElem?_append_right (by rw [ws_len]; omega), ws_len, Nat.sub_self]
  rfl
theorem Wf_lo (B : Nat → Nat) (t : Nat) (ht : t < 16) : Wf B t = wd (B (4 * t)) (B (4 * t + 1)) (B (4 * t + 2)) (B (4 * t + 3)) := by
  rw [Wf_eq B t (by omega), if_pos ht]
theorem Wf_hi (B : Nat → Nat) (t : Nat) (h : 16 ≤ t) (ht : t < 64) : Wf B t = ad (ad (ad (Wf B (t - 16)) (s0 (Wf B (t - 15)))) (Wf B (t - 7))) (s1 (Wf B (t - 2))) := by
  rw [Wf_eq B t ht, if_neg (by omega), nxt, ws_at B _ t (by omega) (by omega), ws_at B _ t (by omega) (by omega), ws_at B _ t (by omega) (by omega), ws_at B _ t (by omega) (by omega)]
theorem wd_lt (a b c d : Nat) (ha : a < 256) (hb : b < 256) (hc : c < 256) (hd : d < 256) : Wd (wd a b c d) := by unfold wd Wd; omega
theorem Wf_lt (B : Nat → Nat) (hB : ∀ i, i < 64 → B i < 256) (t : Nat) (ht : t < 64) : Wd (Wf B t) := by
  rcases Nat.lt_or_ge t 16 with h | h
  · rw [Wf_lo B t h]; exact wd_lt _ _ _ _ (hB _ (by omega)) (hB _ (by omega)) (hB _ (by omega)) (hB _ (by omega))
  · rw [Wf_hi B t h ht]; exact ad_lt _ _
/-- The array of words, the first t of them made. -/
def wcs (B : Nat → Nat) (t : Nat) : Array Value := Array.ofFn (n := 64) fun i => u32v (if i.val < t then Wf B i.val else 0)
theorem wcs_size (B : Nat → Nat) (t : Nat) : (wcs B t).size = 64 := by simp [wcs]
theorem wcs_get (B : Nat → Nat) (t i : Nat) (hi : i < t) (ht : t ≤ 64) : (wcs B t)[i]? = some (u32v (Wf B i)) := by
  rw [wcs, Array.getElem?_ofFn, dif_pos (by omega), if_pos hi]
theorem wcs_set (B : Nat → Nat) (t : Nat) (ht : t < 64) : (wcs B t).setIfInBounds t (u32v (Wf B t)) = wcs B (t + 1) := by
  apply Array.ext
  · simp [wcs]
  · intro i h1 h2
    rw [Array.getElem_setIfInBounds (by simpa using h1)]
    simp only [wcs, Array.getElem_ofFn]
    by_cases h : t = i
    · subst h; simp
    · rw [if_neg h]
      have : (i < t + 1) = (i < t) := by apply propext; omega
      simp only [this]
def z64 : Array Value := Array.replicate 64 (u32v 0)
theorem wcs_0 (B : Nat → Nat) : wcs B 0 = z64 := by
  apply Array.ext
  · simp [wcs, z64]
  · intro i h1 h2
    simp [wcs, z64]

theorem wcs_one (B : Nat → Nat) (t : Nat) : ∀ u ∈ (wcs B t).toList, u.oneCell' = true := by
  intro u hu
  have hu2 : u ∈ wcs B t := by simpa using hu
  obtain ⟨i, hi, rfl⟩ := Array.mem_iff_getElem.1 hu2
  simp [wcs, Value.oneCell']
theorem z64_drop : z64.toList.drop (0 + 64) = [] := by rw [z64]; simp
theorem len64 : Tryz.prog.arrayLen 305 = 64 := by kernel_rfl
theorem elem64 : Tryz.prog.elem 305 = 5 := by kernel_rfl
theorem slice64 (bb o l : Nat) (hl : l < 64) (w : World) : (Instr.sliceAt 305 (.pointer (some ⟨bb, o, none⟩)) (some (.int .i64 (l : Int))) none none).run Tryz.prog w = .ok (.slice (some ⟨bb, o + l, none⟩) (64 - l) (64 - l)) w := by
  rw [run_sliceAt_array_l w _ _ (by rw [len64, elem64]; exact Tryz.underlying305) .i64 (l : Int) (by omega) (by rw [len64]; omega), elem64, Tryz.sizeOf5 w, len64]
  simp only [Result.andThen_ok, slicedAt]
  rw [if_neg (by omega)]
  simp [addO]
/-- Four bytes put together, as the program does. -/
theorem wd_or (a b c d : Nat) (ha : a < 256) (hb : b < 256) (hc : c < 256) (hd : d < 256) :
    bits .or .u32 ((a * 16777216 : Nat) : Int) ((b * 65536 : Nat) : Int) = ((a * 16777216 + b * 65536 : Nat) : Int) ∧
    bits .or .u32 ((a * 16777216 + b * 65536 : Nat) : Int) ((c * 256 : Nat) : Int) = ((a * 16777216 + b * 65536 + c * 256 : Nat) : Int) ∧
    bits .or .u32 ((a * 16777216 + b * 65536 + c * 256 : Nat) : Int) (d : Int) = ((wd a b c d : Nat) : Int) := by
  have or32 : ∀ (m x y : Nat), y < 2 ^ m → 2 ^ m * x + y < 4294967296 → bits .or .u32 ((2 ^ m * x : Nat) : Int) (y : Int) = ((2 ^ m * x + y : Nat) : Int) := fun m x y hy hs => by
    rw [u32_or_nat _ _ (by omega) (by omega), Nat.two_pow_add_eq_or_of_lt hy]
  refine ⟨?_, ?_, ?_⟩
  · have := or32 24 a (b * 65536) (by omega) (by omega)
    rw [show 2 ^ 24 * a = a * 16777216 by omega] at this
    exact this
  · have := or32 16 (a * 256 + b) (c * 256) (by omega) (by omega)
    rw [show 2 ^ 16 * (a * 256 + b) = a * 16777216 + b * 65536 by omega] at this
    exact this
  · have := or32 8 (a * 65536 + b * 256 + c) d (by omega) (by omega)
    rw [show 2 ^ 8 * (a * 65536 + b * 256 + c) = a * 16777216 + b * 65536 + c * 256 by omega] at this
    exact this

end Go.Proofs.YtgobdjdaehlgdaaGreatDoor
namespace Go.Proofs.YtgobdjdaehlgdaaGreatDoor
open Go.RowKit
set_option linter.unusedVariables false
set_option linter.unusedSimpArgs false

/-- A digest's cells. -/
def dcs (s : V8) (blk : List UInt8) (n : Nat) : Array Value := (.bool true :: ((vals s).toList ++ (bc blk ++ [.int .u64 (n : Int)]))).toArray
theorem vals_len (s : V8) : (vals s).toList.length = 8 := rfl
theorem vals_size (s : V8) : (vals s).size = 8 := rfl
theorem dcs_size (s : V8) (blk : List UInt8) (n : Nat) (h : blk.length = 64) : (dcs s blk n).size = 74 := by
  simp [dcs, vals_size, bc_len, h]
theorem dcs_0 (s : V8) (blk : List UInt8) (n : Nat) : (dcs s blk n)[0]? = some (.bool true) := rfl
theorem dcs_73 (s : V8) (blk : List UInt8) (n : Nat) (h : blk.length = 64) : (dcs s blk n)[73]? = some (.int .u64 (n : Int)) := by
  simp only [dcs, List.getElem?_toArray, List.getElem?_cons_succ]
  rw [List.getElem?_append_right (by rw [vals_len]; omega), vals_len, List.getElem?_append_right (by rw [bc_len, h]; omega), bc_len, h]
  rfl
theorem dcs_w (s : V8) (blk : List UInt8) (n j : Nat) (hj : j < 8) : (dcs s blk n)[1 + j]? = (vals s)[j]? := by
  rw [Nat.add_comm]
  simp only [dcs, List.getElem?_toArray, List.getElem?_cons_succ]
  rw [List.getElem?_append_left (by rw [vals_len]; omega), Array.getElem?_toList]
theorem dcs_b (s : V8) (blk : List UInt8) (n j : Nat) (hj : j < 64) (h : blk.length = 64) : (dcs s blk n)[9 + j]? = some (.int .u8 ((blk.getD j 0).toNat : Nat)) := by
  rw [show 9 + j = (8 + j) + 1 by omega]
  simp only [dcs, List.getElem?_toArray, List.getElem?_cons_succ]
  rw [List.getElem?_append_right (by rw [vals_len]; omega), vals_len, show 8 + j - 8 = j by omega, List.getElem?_append_left (by rw [bc_len, h]; omega), bc, List.getElem?_map, List.getElem?_eq_getElem (by omega), List.getD_eq_getElem?_getD, List.getElem?_eq_getElem (by omega)]
  rfl
theorem dcs_words (s s' : V8) (blk : List UInt8) (n : Nat) : (dcs s' blk n).toList = (dcs s blk n).toList.take 1 ++ (vals s').toList ++ (dcs s blk n).toList.drop (1 + 8) := by
  simp only [dcs, List.toList_toArray, List.take_succ_cons, List.take_zero, Nat.add_comm 1 8, List.drop_succ_cons]
  rw [List.drop_append_of_le_length (by rw [vals_len]; omega), show ((vals s).toList.drop 8) = [] from List.drop_of_length_le (by rw [vals_len]; omega)]
  simp
theorem dcs_copy (s : V8) (blk c : List UInt8) (n f : Nat) (h : blk.length = 64) (hf : f + c.length ≤ 64) : (dcs s (blk.take f ++ c ++ blk.drop (f + c.length)) n).toList = (dcs s blk n).toList.take (9 + f) ++ bc c ++ (dcs s blk n).toList.drop (9 + f + c.length) := by
  simp only [dcs, List.toList_toArray]
  rw [show 9 + f = (8 + f) + 1 by omega, show 8 + f + 1 + c.length = (8 + (f + c.length)) + 1 by omega, List.take_succ_cons, List.drop_succ_cons]
  have e1 : ((vals s).toList ++ (bc blk ++ [Value.int .u64 (n : Int)])).take (8 + f) = (vals s).toList ++ bc (blk.take f) := by
    rw [List.take_append, List.take_of_length_le (by rw [vals_len]; omega), vals_len, show 8 + f - 8 = f by omega, List.take_append_of_le_length (by rw [bc_len]; omega)]
    simp [bc]
  have e2 : ((vals s).toList ++ (bc blk ++ [Value.int .u64 (n : Int)])).drop (8 + (f + c.length)) = bc (blk.drop (f + c.length)) ++ [Value.int .u64 (n : Int)] := by
    rw [List.drop_append, List.drop_of_length_le (by rw [vals_len]; omega), vals_len, show 8 + (f + c.length) - 8 = f + c.length by omega, List.drop_append_of_le_length (by rw [bc_len]; omega)]
    simp [bc]
  rw [e1, e2]
  simp [bc_app]
theorem dcs_count (s : V8) (blk : List UInt8) (n m : Nat) (h : blk.length = 64) : (dcs s blk n).setIfInBounds 73 (.int .u64 (m : Int)) = dcs s blk m := by
  apply Array.ext'
  rw [Array.toList_setIfInBounds]
  simp only [dcs, List.toList_toArray, List.set_cons_succ]
  rw [List.set_append_right _ _ (by rw [vals_len]; omega), vals_len, List.set_append_right _ _ (by rw [bc_len, h]; omega), bc_len, h]
  rfl
/-- A block of bytes as numbers. -/
abbrev bn (blk : List UInt8) : Nat → Nat := fun i => (blk.getD i 0).toNat
/-- The words behind a block. -/
def comp (s : V8) (blk : List UInt8) : V8 := add8 s (rounds Kc (Wf (bn blk)) s 64)
theorem comp_ok (s : V8) (blk : List UInt8) : (comp s blk).ok := add8_ok _ _
theorem vals_one (s : V8) : ∀ u ∈ (vals s).toList, u.oneCell' = true := by simp [vals, Value.oneCell']
end Go.Proofs.YtgobdjdaehlgdaaGreatDoor
namespace Go.Proofs.YtgobdjdaehlgdaaGreatDoor
open Go.RowKit
set_option linter.unusedVariables false
set_option linter.unusedSimpArgs false

def H0 : V8 := ⟨1779033703, 3144134277, 1013904242, 2773480762, 1359893119, 2600822924, 528734635, 1541459225⟩
theorem H0_ok : H0.ok := ⟨by decide, by decide, by decide, by decide, by decide, by decide, by decide, by decide⟩
/-- The words behind so many blocks. -/
def st (L : List UInt8) : Nat → V8
  | 0 => H0
  | n + 1 => comp (st L n) ((L.drop (64 * n)).take 64)
theorem st_ok (L : List UInt8) : ∀ n, (st L n).ok
  | 0 => H0_ok
  | n + 1 => comp_ok _ _
theorem st_app (L M : List UInt8) : ∀ n, 64 * n ≤ L.length → st (L ++ M) n = st L n
  | 0, _ => rfl
  | n + 1, h => by
    rw [st, st, st_app L M n (by omega), List.drop_append_of_le_length (by omega), List.take_append_of_le_length (by rw [List.length_drop]; omega)]
theorem dig_part (L c blk : List UInt8) (hb : blk.length = 64) (ht : blk.take (L.length % 64) = L.drop (64 * (L.length / 64))) (hc : L.length % 64 + c.length < 64) :
    (blk.take (L.length % 64) ++ c ++ blk.drop (L.length % 64 + c.length)).take ((L ++ c).length % 64) = (L ++ c).drop (64 * ((L ++ c).length / 64)) ∧ st (L ++ c) ((L ++ c).length / 64) = st L (L.length / 64) := by
  have e1 : (L ++ c).length / 64 = L.length / 64 := by rw [List.length_append]; omega
  have e2 : (L ++ c).length % 64 = L.length % 64 + c.length := by rw [List.length_append]; omega
  rw [e1, e2]
  refine ⟨?_, st_app L c _ (by omega)⟩
  rw [List.take_append_of_le_length (by simp [hb]; omega), List.take_of_length_le (by simp [hb]; omega), ht, List.drop_append_of_le_length (by omega)]
theorem dig_full (L c blk : List UInt8) (hb : blk.length = 64) (ht : blk.take (L.length % 64) = L.drop (64 * (L.length / 64))) (hc : L.length % 64 + c.length = 64) :
    (blk.take (L.length % 64) ++ c ++ blk.drop (L.length % 64 + c.length)).take ((L ++ c).length % 64) = (L ++ c).drop (64 * ((L ++ c).length / 64)) ∧ st (L ++ c) ((L ++ c).length / 64) = comp (st L (L.length / 64)) (blk.take (L.length % 64) ++ c ++ blk.drop (L.length % 64 + c.length)) := by
  have e1 : (L ++ c).length / 64 = L.length / 64 + 1 := by rw [List.length_append]; omega
  have e2 : (L ++ c).length % 64 = 0 := by rw [List.length_append]; omega
  rw [e1, e2]
  refine ⟨?_, ?_⟩
  · rw [List.drop_of_length_le (l := L ++ c) (by rw [List.length_append]; omega)]; simp
  · rw [st, st_app L c _ (by omega), ht, List.drop_append_of_le_length (by omega), hc, List.drop_of_length_le (l := blk) (by omega), List.append_nil, List.take_of_length_le (by simp; omega)]

theorem run_copy_str {P : Program} (w : World) (dT sT ty elem : TypeId) (g o dLen dCap : Nat) (x : ByteArray) (cur : Array Value) (t : TypeId) (c : List UInt8)
    (hu : P.underlying dT = some (.slice elem)) (hs : (P.info? elem).map (·.size) = some 1) (hg : w.heap[g]? = some (.cells cur t (0, 0)))
    (hc : c = x.data.toList.take (Nat.min x.size dLen)) (hfit : o + c.length ≤ cur.size) :
    (Builtin.copy_ #[dT, sT] ty #[.slice (some ⟨g, o, none⟩) dLen dCap, .string x]).run P w =
      .ok (goInt (Nat.min x.size dLen)) (w.setRow g (cur.toList.take o ++ bc c ++ cur.toList.drop (o + c.length)).toArray) := by
  have hst := run_storeCells_at P g o t (bc c) 0 cur w hg (by simpa [bc_len] using hfit) (by simp [bc, Value.oneCell'])
  have he : (((x.extract 0 (Nat.min x.size dLen)).data.map fun b => Value.int .u8 b.toNat)).toList = bc c := by
    rw [hc, bc, Array.toList_map, ByteArray.data_extract]
    simp
  cases hq : P.info? elem with
  | none => simp [hq] at hs
  | some i =>
    have hi : i.size = 1 := by simpa [hq] using hs
    simp only [Nat.add_zero, bc_len] at hst
    have he3 : List.take (Nat.min x.size dLen) (List.map (fun b : UInt8 => Value.int .u8 (b.toNat : Int)) x.data.toList) = bc c := by rw [hc, bc, List.map_take]
    clear hc he
    simp [Builtin.copy_, run_underlying hu, Builtin.lenOf, Builtin.firstCells, sizeOf, typeInfo, hq, hi, he3, hst]
theorem step_copy_str {P : Program} {ops : Array Oper} {o : Oper} {a : Act} {w : World} {K : Act → World → Prop} {Q : Exit → Act → World → Prop} {E : Prop} (hgd : o.guard = none) (d s : Operand) (dT sT : TypeId)
    (ho : o.op = .call { callee := .builtin .copy, args := #[d, s], argTypes := #[dT, sT] }) (elem : TypeId) (hu : P.underlying dT = some (.slice elem)) (hsz : (P.info? elem).map (·.size) = some 1)
    (g off dLen dCap : Nat) (x : ByteArray) (hd : a.eval d = .slice (some ⟨g, off, none⟩) dLen dCap) (hs : a.eval s = .string x)
    (cur : Array Value) (t : TypeId) (hg : w.heap[g]? = some (.cells cur t (0, 0))) (c : List UInt8) (hc : c = x.data.toList.take (Nat.min x.size dLen)) (k : Nat) (hk : Nat.min x.size dLen = k) (hfit : off + c.length ≤ cur.size)
    (new : Array Value) (hnew : new.toList = cur.toList.take off ++ bc c ++ cur.toList.drop (off + c.length))
    (h : ∀ w', w'.heap[g]? = some (.cells new t (0, 0)) → Fr (fun k => k = g) w w' → K (a.put o.dst (.int .i64 (k : Int))) w') :
    if Region.wanted o (yielded ops a.tmps) = true then Oper.wp P o a w K Q else E := by
  have hw : Region.wanted o (yielded ops a.tmps) = true := by simp [Region.wanted, hgd]
  rw [if_pos hw]
  have hrun := run_copy_str (P := P) w dT sT o.type elem g off dLen dCap x cur t c hu hsz hg hc hfit
  have hn : new = (cur.toList.take off ++ bc c ++ cur.toList.drop (off + c.length)).toArray := by apply Array.ext'; rw [hnew]
  rw [← hn, hk] at hrun
  unfold Oper.wp
  simp [execOp, ho, resolve, invoke, builtin, hd, hs, hrun, Result.andThen]
  exact h _ (setRow_heap w g cur new t (0, 0) hg) ⟨rfl, rfl, rfl, by simp, fun k hk hne => setRow_other w g k new hne⟩
/-- How long a text is. -/
def strLen : Value → Nat
  | .string x => x.size
  | _ => 0
theorem sz8 : (Tryz.prog.info? 5).map (·.size) = some 1 := by kernel_rfl

end Go.Proofs.YtgobdjdaehlgdaaGreatDoor
namespace Go.Proofs.YtgobdjdaehlgdaaGreatDoor
open Go.RowKit
set_option linter.unusedVariables false
set_option linter.unusedSimpArgs false

def wl (s : V8) : List Nat := [s.a, s.b, s.c, s.d, s.e, s.f, s.g, s.h]
/-- A byte of a hash. -/
def hby (s : V8) (i : Nat) : Nat := (wl s).getD (i / 4) 0 / 2 ^ (8 * (3 - i % 4)) % 256
theorem hby_lt (s : V8) (i : Nat) : hby s i < 256 := Nat.mod_lt _ (by decide)
def hcs (s : V8) (t : Nat) : Array Value := Array.ofFn (n := 32) fun i => .int .u8 ((if i.val < t then hby s i.val else 0 : Nat) : Int)
/-- A hash as a value. -/
def hsh (s : V8) : Value := .agg (hcs s 32)
def z32 : Array Value := Array.replicate 32 (.int .u8 0)
theorem hcs_size (s : V8) (t : Nat) : (hcs s t).size = 32 := by simp [hcs]
theorem hcs_0 (s : V8) : hcs s 0 = z32 := by
  apply Array.ext
  · simp [hcs, z32]
  · intro i h1 h2
    simp [hcs, z32]
theorem hcs_set (s : V8) (t : Nat) (ht : t < 32) : (hcs s t).setIfInBounds t (.int .u8 ((hby s t : Nat) : Int)) = hcs s (t + 1) := by
  apply Array.ext
  · simp [hcs]
  · intro i h1 h2
    rw [Array.getElem_setIfInBounds (by simpa using h1)]
    simp only [hcs, Array.getElem_ofFn]
    by_cases h : t = i
    · subst h; simp
    · rw [if_neg h]
      have : (i < t + 1) = (i < t) := by apply propext; omega
      simp only [this]
theorem hcs_one (s : V8) (t : Nat) : ∀ u ∈ (hcs s t).toList, u.oneCell' = true := by
  intro u hu
  have hu2 : u ∈ hcs s t := by simpa using hu
  obtain ⟨i, hi, rfl⟩ := Array.mem_iff_getElem.1 hu2
  simp [hcs, Value.oneCell']
theorem z32_drop : z32.toList.drop (0 + 32) = [] := by rw [z32]; simp
theorem vals_at (s : V8) (j : Nat) (hj : j < 8) : (vals s)[j]? = some (u32v ((wl s).getD j 0)) := by
  have : j = 0 ∨ j = 1 ∨ j = 2 ∨ j = 3 ∨ j = 4 ∨ j = 5 ∨ j = 6 ∨ j = 7 := by omega
  rcases this with rfl | rfl | rfl | rfl | rfl | rfl | rfl | rfl <;> rfl
theorem wl_lt (s : V8) (hs : s.ok) (j : Nat) : Wd ((wl s).getD j 0) := by
  rcases Nat.lt_or_ge j 8 with h | h
  · have : j = 0 ∨ j = 1 ∨ j = 2 ∨ j = 3 ∨ j = 4 ∨ j = 5 ∨ j = 6 ∨ j = 7 := by omega
    rcases this with rfl | rfl | rfl | rfl | rfl | rfl | rfl | rfl
    · exact hs.a
    · exact hs.b
    · exact hs.c
    · exact hs.d
    · exact hs.e
    · exact hs.f
    · exact hs.g
    · exact hs.h
  · rw [List.getD_eq_getElem?_getD, List.getElem?_eq_none (by simpa [wl] using h)]; decide

end Go.Proofs.YtgobdjdaehlgdaaGreatDoor
namespace Go.Proofs.YtgobdjdaehlgdaaGreatDoor
open Go.RowKit
set_option linter.unusedVariables false
set_option linter.unusedSimpArgs false

/-- How many noughts follow. -/
def zc (n : Nat) : Nat := (120 - (n + 1) % 64) % 64
/-- A number as eight bytes. -/
def lby (n i : Nat) : UInt8 := UInt8.ofNat (n / 2 ^ (8 * (7 - i)))
def len8 (n : Nat) : List UInt8 := [lby n 0, lby n 1, lby n 2, lby n 3, lby n 4, lby n 5, lby n 6, lby n 7]
def pad (L : List UInt8) : List UInt8 := ((L ++ [128]) ++ List.replicate (zc L.length) 0) ++ len8 (8 * L.length)
/-- The words of SHA. -/
def sha (L : List UInt8) : V8 := st (pad L) ((pad L).length / 64)
theorem sha_ok (L : List UInt8) : (sha L).ok := st_ok _ _
def lcs (n t : Nat) : Array Value := Array.ofFn (n := 8) fun i => .int .u8 ((if i.val < t then (lby n i.val).toNat else 0 : Nat) : Int)
def zb8 : Array Value := Array.replicate 8 (.int .u8 0)
theorem lcs_0 (n : Nat) : lcs n 0 = zb8 := by
  apply Array.ext
  · simp [lcs, zb8]
  · intro i h1 h2
    simp [lcs, zb8]
theorem lcs_set (n t : Nat) (ht : t < 8) : (lcs n t).setIfInBounds t (.int .u8 (((lby n t).toNat : Nat) : Int)) = lcs n (t + 1) := by
  apply Array.ext
  · simp [lcs]
  · intro i h1 h2
    rw [Array.getElem_setIfInBounds (by simpa using h1)]
    simp only [lcs, Array.getElem_ofFn]
    by_cases h : t = i
    · subst h; simp
    · rw [if_neg h]
      have : (i < t + 1) = (i < t) := by apply propext; omega
      simp only [this]
theorem lby_val (n i : Nat) : (n : Int) / 2 ^ (8 * (7 - i)) % 256 = (((lby n i).toNat : Nat) : Int) := by
  rw [lby, UInt8.toNat_ofNat']
  simp
abbrev n64 : ByteArray := ⟨#[0, 0, 0, 0, 0, 0, 0, 0, 0, 0, 0, 0, 0, 0, 0, 0, 0, 0, 0, 0, 0, 0, 0, 0, 0, 0, 0, 0, 0, 0, 0, 0, 0, 0, 0, 0, 0, 0, 0, 0, 0, 0, 0, 0, 0, 0, 0, 0, 0, 0, 0, 0, 0, 0, 0, 0, 0, 0, 0, 0, 0, 0, 0, 0]⟩
theorem n64_list : n64.data.toList = List.replicate 64 0 := by kernel_rfl
theorem n64_cut (z : Nat) (hz : z ≤ 64) : (n64.extract 0 z).data.toList = List.replicate z 0 := by
  rw [ByteArray.data_extract, Array.toList_extract, n64_list]
  simp only [List.extract_eq_take_drop, Nat.sub_zero, List.drop_zero, List.take_replicate, Nat.min_eq_left hz]
theorem n64_size (z : Nat) (hz : z ≤ 64) : (n64.extract 0 z).size = z := by
  have h1 : (n64.extract 0 z).data.toList.length = (n64.extract 0 z).size := by rw [Array.length_toList]; rfl
  rw [← h1, n64_cut z hz, List.length_replicate]
theorem sha_eq {L M : List UInt8} (h : M = pad L) : st M (M.length / 64) = sha L := by rw [h]; rfl

end Go.Proofs.YtgobdjdaehlgdaaGreatDoor
namespace Go.Proofs.YtgobdjdaehlgdaaGreatDoor
open Go.RowKit
set_option linter.unusedVariables false
set_option linter.unusedSimpArgs false

/-- Nothing yet. -/
abbrev d0 : Array Value := dcs H0 (List.replicate 64 0) 0
theorem dcs_one (s : V8) (blk : List UInt8) (n : Nat) : ∀ u ∈ (dcs s blk n).toList, u.oneCell' = true := by
  intro u hu
  simp only [dcs, List.toList_toArray, List.mem_cons, List.mem_append, List.not_mem_nil, or_false] at hu
  rcases hu with rfl | h | h | rfl
  · rfl
  · exact vals_one s u h
  · obtain ⟨b, _, rfl⟩ := List.mem_map.1 h; rfl
  · rfl
end Go.Proofs.YtgobdjdaehlgdaaGreatDoor
namespace Go.Proofs.YtgobdjdaehlgdaaGreatDoor
open Go.RowKit
set_option linter.unusedVariables false
set_option linter.unusedSimpArgs false

/-- Texts, one behind the other. -/
def cat (ss : List ByteArray) : List UInt8 := ss.flatMap fun x => x.data.toList
theorem cat_step (ss : List ByteArray) (k : Nat) (x : ByteArray) (h : ss[k]? = some x) : cat (ss.take (k + 1)) = cat (ss.take k) ++ x.data.toList := by
  rw [List.take_add_one, h]
  simp [cat]
theorem cat_len (ss : List ByteArray) (k : Nat) : (cat (ss.take k)).length ≤ (cat ss).length := by
  have h : cat ss = cat (ss.take k) ++ cat (ss.drop k) := by
    rw [cat, cat, cat, ← List.flatMap_append, List.take_append_drop]
  rw [h, List.length_append]; omega
/-- Texts in memory. -/
def Strs (w : World) (p : Option Addr) (ss : List ByteArray) : Prop := ∀ (j : Nat) (x : ByteArray), ss[j]? = some x → ∃ g o, p = some ⟨g, o, none⟩ ∧ w.cell? ⟨g, o + j, none⟩ = some (.string x)
theorem Strs.nw {w w' : World} {p : Option Addr} {ss : List ByteArray} (h : Strs w p ss) (k : Nw w w') : Strs w' p ss := fun j x hx => by
  obtain ⟨g, o, hp, hc⟩ := h j x hx
  exact ⟨g, o, hp, k.cellOf hc⟩
def z32l : Array Value := #[.int .u8 0, .int .u8 0, .int .u8 0, .int .u8 0, .int .u8 0, .int .u8 0, .int .u8 0, .int .u8 0, .int .u8 0, .int .u8 0, .int .u8 0, .int .u8 0, .int .u8 0, .int .u8 0, .int .u8 0, .int .u8 0, .int .u8 0, .int .u8 0, .int .u8 0, .int .u8 0, .int .u8 0, .int .u8 0, .int .u8 0, .int .u8 0, .int .u8 0, .int .u8 0, .int .u8 0, .int .u8 0, .int .u8 0, .int .u8 0, .int .u8 0, .int .u8 0]
theorem z32_eq : z32l = z32 := by kernel_rfl
theorem d0_one : ∀ u ∈ d0.toList, u.oneCell' = true := dcs_one _ _ _
theorem d0_size : d0.size = 74 := dcs_size _ _ _ (by simp)

end Go.Proofs.YtgobdjdaehlgdaaGreatDoor
