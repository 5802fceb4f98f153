/- One read by the program's reader and by the document's: the same thing, and they go on side by side. -/
import Derived.Test.YtebbgpnhkpbefaaDoorcK0
import Derived.Test.YtebbgpnhkpbefaaDoorcK5
import Derived.Test.YtebbgpnhkpbefaaDoorcK6
import Derived.Test.YtebbgpnhkpbefaaDoorcS3
import Derived.Test.YtebbgpnhkpbefaaDoorcM1
namespace Go.Proofs.YtebbgpnhkpbefaaDoor
open Go.RowKit
set_option linter.unusedVariables false
set_option linter.unusedSimpArgs false

theorem dlen (s : ByteArray) (p : Nat) : (s.data.toList.drop p).length = s.size - p := by
  rw [List.length_drop, Array.length_toList]; rfl
/-- The place that the document tells with the fault of that number. -/
def plD (i : Nat) (q : Int) : Int := if i = 2 then q else -1
/-- The two readers stand at one place, or have one fault. -/
def Rel (w : World) (b c : Nat) (s : ByteArray) (a : Nat → Addr) : Prop :=
  (∃ (p : Nat) (q : Int), p ≤ s.size ∧ Rd w b s p .nilIface q ∧ Rf w c s p 0 0) ∨ (∃ (i : Nat) (p q p' : Int), 1 ≤ i ∧ i ≤ 3 ∧ (i = 2 → 0 ≤ q) ∧ Rd w b s p (sen (a i)) q ∧ Rf w c s p' ((i : Int) + 1) (plD i q))
theorem Rel.fr {S : Nat → Prop} {w w' : World} {b c : Nat} {s : ByteArray} {a : Nat → Addr} (h : Rel w b c s a) (hf : Fr S w w') (hb : ¬ S b) (hc : ¬ S c) : Rel w' b c s a := by
  rcases h with ⟨p, q, h1, h2, h3⟩ | ⟨i, p, q, p', h1, h2, hq, h3, h4⟩
  · exact .inl ⟨p, q, h1, h2.fr hf hb, h3.fr hf hc⟩
  · exact .inr ⟨i, p, q, p', h1, h2, hq, h3.fr hf hb, h4.fr hf hc⟩
/-- A thing, written out. -/
def Tz (V : Array Value) : Prop := ∃ (x k n wd : Int) (t : ByteArray) (lh : List UInt8), lh.length = 32 ∧ V = (([.int .i64 x, .int .i64 k, .int .u64 n, .int .i64 wd, .string t] : List Value) ++ bc lh).toArray
theorem tz_Z (k n wd : Int) (t : ByteArray) : Tz (tZ k n wd t) := ⟨0, k, n, wd, t, List.replicate 32 0, by simp, rfl⟩
theorem tz_H (l : List UInt8) (h : l.length = 32) : Tz (tH l) := ⟨0, 3, 0, 0, ⟨#[]⟩, l, h, rfl⟩
/-- What one read of both does. -/
def Both (w : World) (b c : Nat) (s : ByteArray) (a : Nat → Addr) (A : Array Value) : Prop :=
  ∃ (V : Array Value) (Mid : World → Prop), Tz V ∧
    (∀ W, Fr (fun _ => False) w W → Calls Tryd.prog 7 #[.pointer (some ⟨b, 0, none⟩), .agg A] W fun e w' => e = .returned (.agg V) ∧ Mid w' ∧ Fr (fun j => j = b) W w') ∧
    (∀ (S : Nat → Prop) W W', Mid W → Fr S W W' → ¬ S b → ¬ S c → Mid W') ∧
    (∀ W, Mid W → Calls Tryd.prog 9 #[.pointer (some ⟨c, 0, none⟩), .agg A] W fun e w' => e = .returned (.agg V) ∧ Rel w' b c s a ∧ Fr (fun j => j = c) W w')
theorem both0 {w : World} {b c : Nat} {s : ByteArray} {a : Nat → Addr} {A : Array Value} {kd wd : Int} (hA : Tg A kd wd) (hk : kd % 4 = 0) (hb : b < w.heap.size) (hbc : b ≠ c) (v : Int) (RD' RF RF' : World → Prop)
    (hD' : ∀ (S : Nat → Prop) W W', RD' W → Fr S W W' → ¬ S b → RD' W') (hF : ∀ (S : Nat → Prop) W W', RF W → Fr S W W' → ¬ S c → RF W') (hF' : ∀ (S : Nat → Prop) W W', RF' W → Fr S W W' → ¬ S c → RF' W') (hlt : ∀ W, RF W → c < W.heap.size) (h0 : RF w) (hfin : ∀ W, RD' W → RF' W → Rel W b c s a)
    (h1 : ∀ W, Fr (fun _ => False) w W → Calls Tryd.prog 21 #[.pointer (some ⟨b, 0, none⟩), .int .i64 wd] W fun e w' => e = .returned (.int .u64 v) ∧ RD' w' ∧ Fr (fun j => j = b) W w')
    (h2 : ∀ W, RF W → Calls Tryd.prog 25 #[.pointer (some ⟨c, 0, none⟩), .int .i64 wd] W fun e w' => e = .returned (.int .u64 v) ∧ RF' w' ∧ Fr (fun j => j = c) W w') : Both w b c s a A := by
  refine ⟨tZ 0 v wd ⟨#[]⟩, fun W => RD' W ∧ RF W, tz_Z _ _ _ _, fun W fW => ?_, fun S W W' h hf hb hc => ⟨hD' S W W' h.1 hf hb, hF S W W' h.2 hf hc⟩, fun W hM => ?_⟩
  · refine (took0 b A kd wd W (fun x w' => x = v ∧ RD' w') (Nat.lt_of_lt_of_le hb fW.size) hA.size hA.k hA.w hA.k1 hA.k2 hk (fun w1 f1 => ?_) (fun x w' w'' S hx hf hS => ⟨hx.1, hD' S w' w'' hx.2 hf hS⟩)).mono ?_
    · refine (h1 w1 (fW.trans f1 (fun _ _ q => q))).mono ?_
      rintro e w' ⟨rfl, h', hf⟩
      exact ⟨_, rfl, ⟨rfl, h'⟩, hf⟩
    · rintro e w' ⟨x, rfl, ⟨rfl, h'⟩, hf⟩
      exact ⟨rfl, ⟨h', hF _ W w' (hF _ w W h0 fW (fun f => f)) hf (fun q => hbc q.symm)⟩, hf⟩
  · refine (mean0 c A kd wd W (fun x w' => x = v ∧ RF' w') (hlt W hM.2) hA.size hA.k hA.w hA.k1 hA.k2 hk (fun w1 f1 => ?_) (fun x w' w'' S hx hf hS => ⟨hx.1, hF' S w' w'' hx.2 hf hS⟩)).mono ?_
    · refine (h2 w1 (hF _ W w1 hM.2 f1 (fun f => f))).mono ?_
      rintro e w' ⟨rfl, h', hf⟩
      exact ⟨_, rfl, ⟨rfl, h'⟩, hf⟩
    · rintro e w' ⟨x, rfl, ⟨rfl, h'⟩, hf⟩
      exact ⟨rfl, hfin w' (hD' _ W w' hM.1 hf (fun q => hbc q)) h', hf⟩
theorem both1 {w : World} {b c : Nat} {s : ByteArray} {a : Nat → Addr} {A : Array Value} {kd wd : Int} (hA : Tg A kd wd) (hk : kd % 4 = 1) (hb : b < w.heap.size) (hbc : b ≠ c) (v : Int) (RD' RF RF' : World → Prop)
    (hD' : ∀ (S : Nat → Prop) W W', RD' W → Fr S W W' → ¬ S b → RD' W') (hF : ∀ (S : Nat → Prop) W W', RF W → Fr S W W' → ¬ S c → RF W') (hF' : ∀ (S : Nat → Prop) W W', RF' W → Fr S W W' → ¬ S c → RF' W') (hlt : ∀ W, RF W → c < W.heap.size) (h0 : RF w) (hfin : ∀ W, RD' W → RF' W → Rel W b c s a)
    (h1 : ∀ W, Fr (fun _ => False) w W → Calls Tryd.prog 22 #[.pointer (some ⟨b, 0, none⟩)] W fun e w' => e = .returned (.int .u64 v) ∧ RD' w' ∧ Fr (fun j => j = b) W w')
    (h2 : ∀ W, RF W → Calls Tryd.prog 26 #[.pointer (some ⟨c, 0, none⟩)] W fun e w' => e = .returned (.int .u64 v) ∧ RF' w' ∧ Fr (fun j => j = c) W w') : Both w b c s a A := by
  refine ⟨tZ 1 v 0 ⟨#[]⟩, fun W => RD' W ∧ RF W, tz_Z _ _ _ _, fun W fW => ?_, fun S W W' h hf hb hc => ⟨hD' S W W' h.1 hf hb, hF S W W' h.2 hf hc⟩, fun W hM => ?_⟩
  · refine (took1 b A kd W (fun x w' => x = v ∧ RD' w') (Nat.lt_of_lt_of_le hb fW.size) hA.size hA.k hA.k1 hA.k2 hk (fun w1 f1 => ?_) (fun x w' w'' S hx hf hS => ⟨hx.1, hD' S w' w'' hx.2 hf hS⟩)).mono ?_
    · refine (h1 w1 (fW.trans f1 (fun _ _ q => q))).mono ?_
      rintro e w' ⟨rfl, h', hf⟩
      exact ⟨_, rfl, ⟨rfl, h'⟩, hf⟩
    · rintro e w' ⟨x, rfl, ⟨rfl, h'⟩, hf⟩
      exact ⟨rfl, ⟨h', hF _ W w' (hF _ w W h0 fW (fun f => f)) hf (fun q => hbc q.symm)⟩, hf⟩
  · refine (mean1 c A kd W (fun x w' => x = v ∧ RF' w') (hlt W hM.2) hA.size hA.k hA.k1 hA.k2 hk (fun w1 f1 => ?_) (fun x w' w'' S hx hf hS => ⟨hx.1, hF' S w' w'' hx.2 hf hS⟩)).mono ?_
    · refine (h2 w1 (hF _ W w1 hM.2 f1 (fun f => f))).mono ?_
      rintro e w' ⟨rfl, h', hf⟩
      exact ⟨_, rfl, ⟨rfl, h'⟩, hf⟩
    · rintro e w' ⟨x, rfl, ⟨rfl, h'⟩, hf⟩
      exact ⟨rfl, hfin w' (hD' _ W w' hM.1 hf (fun q => hbc q)) h', hf⟩
theorem both2 {w : World} {b c : Nat} {s : ByteArray} {a : Nat → Addr} {A : Array Value} {kd wd : Int} (hA : Tg A kd wd) (hk : kd % 4 = 2) (hb : b < w.heap.size) (hbc : b ≠ c) (v : ByteArray) (RD' RF RF' : World → Prop)
    (hD' : ∀ (S : Nat → Prop) W W', RD' W → Fr S W W' → ¬ S b → RD' W') (hF : ∀ (S : Nat → Prop) W W', RF W → Fr S W W' → ¬ S c → RF W') (hF' : ∀ (S : Nat → Prop) W W', RF' W → Fr S W W' → ¬ S c → RF' W') (hlt : ∀ W, RF W → c < W.heap.size) (h0 : RF w) (hfin : ∀ W, RD' W → RF' W → Rel W b c s a)
    (h1 : ∀ W, Fr (fun _ => False) w W → Calls Tryd.prog 23 #[.pointer (some ⟨b, 0, none⟩), .int .i64 wd] W fun e w' => e = .returned (.string v) ∧ RD' w' ∧ Fr (fun j => j = b) W w')
    (h2 : ∀ W, RF W → Calls Tryd.prog 27 #[.pointer (some ⟨c, 0, none⟩), .int .i64 wd] W fun e w' => e = .returned (.string v) ∧ RF' w' ∧ Fr (fun j => j = c) W w') : Both w b c s a A := by
  refine ⟨tZ 2 0 0 v, fun W => RD' W ∧ RF W, tz_Z _ _ _ _, fun W fW => ?_, fun S W W' h hf hb hc => ⟨hD' S W W' h.1 hf hb, hF S W W' h.2 hf hc⟩, fun W hM => ?_⟩
  · refine (took2 b A kd wd W (fun x w' => x = v ∧ RD' w') (Nat.lt_of_lt_of_le hb fW.size) hA.size hA.k hA.w hA.k1 hA.k2 hk (fun w1 f1 => ?_) (fun x w' w'' S hx hf hS => ⟨hx.1, hD' S w' w'' hx.2 hf hS⟩)).mono ?_
    · refine (h1 w1 (fW.trans f1 (fun _ _ q => q))).mono ?_
      rintro e w' ⟨rfl, h', hf⟩
      exact ⟨_, rfl, ⟨rfl, h'⟩, hf⟩
    · rintro e w' ⟨x, rfl, ⟨rfl, h'⟩, hf⟩
      exact ⟨rfl, ⟨h', hF _ W w' (hF _ w W h0 fW (fun f => f)) hf (fun q => hbc q.symm)⟩, hf⟩
  · refine (mean2 c A kd wd W (fun x w' => x = v ∧ RF' w') (hlt W hM.2) hA.size hA.k hA.w hA.k1 hA.k2 hk (fun w1 f1 => ?_) (fun x w' w'' S hx hf hS => ⟨hx.1, hF' S w' w'' hx.2 hf hS⟩)).mono ?_
    · refine (h2 w1 (hF _ W w1 hM.2 f1 (fun f => f))).mono ?_
      rintro e w' ⟨rfl, h', hf⟩
      exact ⟨_, rfl, ⟨rfl, h'⟩, hf⟩
    · rintro e w' ⟨x, rfl, ⟨rfl, h'⟩, hf⟩
      exact ⟨rfl, hfin w' (hD' _ W w' hM.1 hf (fun q => hbc q)) h', hf⟩
theorem both3 {w : World} {b c : Nat} {s : ByteArray} {a : Nat → Addr} {A : Array Value} {kd wd : Int} (hA : Tg A kd wd) (hk : kd % 4 = 3) (hb : b < w.heap.size) (hbc : b ≠ c) (v : List UInt8) (hv : v.length = 32) (RD' RF RF' : World → Prop)
    (hD' : ∀ (S : Nat → Prop) W W', RD' W → Fr S W W' → ¬ S b → RD' W') (hF : ∀ (S : Nat → Prop) W W', RF W → Fr S W W' → ¬ S c → RF W') (hF' : ∀ (S : Nat → Prop) W W', RF' W → Fr S W W' → ¬ S c → RF' W') (hlt : ∀ W, RF W → c < W.heap.size) (h0 : RF w) (hfin : ∀ W, RD' W → RF' W → Rel W b c s a)
    (h1 : ∀ W, Fr (fun _ => False) w W → Calls Tryd.prog 24 #[.pointer (some ⟨b, 0, none⟩)] W fun e w' => e = .returned (.agg (bc v).toArray) ∧ RD' w' ∧ Fr (fun j => j = b) W w')
    (h2 : ∀ W, RF W → Calls Tryd.prog 28 #[.pointer (some ⟨c, 0, none⟩)] W fun e w' => e = .returned (.agg (bc v).toArray) ∧ RF' w' ∧ Fr (fun j => j = c) W w') : Both w b c s a A := by
  refine ⟨tH v, fun W => RD' W ∧ RF W, tz_H _ hv, fun W fW => ?_, fun S W W' h hf hb hc => ⟨hD' S W W' h.1 hf hb, hF S W W' h.2 hf hc⟩, fun W hM => ?_⟩
  · refine (took3 b A kd W (fun x w' => x = v ∧ RD' w') (Nat.lt_of_lt_of_le hb fW.size) hA.size hA.k hA.k1 hA.k2 hk (fun w1 f1 => ?_) (fun x w' w'' S hx hf hS => ⟨hx.1, hD' S w' w'' hx.2 hf hS⟩)).mono ?_
    · refine (h1 w1 (fW.trans f1 (fun _ _ q => q))).mono ?_
      rintro e w' ⟨rfl, h', hf⟩
      exact ⟨_, hv, rfl, ⟨rfl, h'⟩, hf⟩
    · rintro e w' ⟨x, _, rfl, ⟨rfl, h'⟩, hf⟩
      exact ⟨rfl, ⟨h', hF _ W w' (hF _ w W h0 fW (fun f => f)) hf (fun q => hbc q.symm)⟩, hf⟩
  · refine (mean3 c A kd W (fun x w' => x = v ∧ RF' w') (hlt W hM.2) hA.size hA.k hA.k1 hA.k2 hk (fun w1 f1 => ?_) (fun x w' w'' S hx hf hS => ⟨hx.1, hF' S w' w'' hx.2 hf hS⟩)).mono ?_
    · refine (h2 w1 (hF _ W w1 hM.2 f1 (fun f => f))).mono ?_
      rintro e w' ⟨rfl, h', hf⟩
      exact ⟨_, hv, rfl, ⟨rfl, h'⟩, hf⟩
    · rintro e w' ⟨x, _, rfl, ⟨rfl, h'⟩, hf⟩
      exact ⟨rfl, hfin w' (hD' _ W w' hM.1 hf (fun q => hbc q)) h', hf⟩
/-- One read of both, whatever it is. -/
theorem both_any {B b c : Nat} {s : ByteArray} {w : World} {a : Nat → Addr} {A : Array Value} {kd wd : Int} (hS : Sent B w a) (hb : B ≤ b) (hbc : b ≠ c) (h : Rel w b c s a) (hs : s.size ≤ 140737488355328) (hA : Tg A kd wd) : Both w b c s a A := by
  have hsm : s.size ≤ maxLen := by unfold maxLen; omega
  have hNB := hS.hB
  have hsz := hS.hsz
  have kD : ∀ (p : Int) (f : Value) (q : Int) (S : Nat → Prop) W W', Rd W b s p f q → Fr S W W' → ¬ S b → Rd W' b s p f q := fun p f q S W W' h hf hb => h.fr hf hb
  have kE : ∀ (f : Value) (q : Int) (S : Nat → Prop) W W', (∃ p : Int, Rd W b s p f q) → Fr S W W' → ¬ S b → ∃ p : Int, Rd W' b s p f q := fun f q S W W' h hf hb => by obtain ⟨p, h⟩ := h; exact ⟨p, h.fr hf hb⟩
  have kF : ∀ (p x y : Int) (S : Nat → Prop) W W', Rf W c s p x y → Fr S W W' → ¬ S c → Rf W' c s p x y := fun p x y S W W' h hf hc => h.fr hf hc
  have kL : ∀ (p x y : Int) W, Rf W c s p x y → c < W.heap.size := fun p x y W h => heap_lt h
  have h4 : kd % 4 = 0 ∨ kd % 4 = 1 ∨ kd % 4 = 2 ∨ kd % 4 = 3 := by omega
  rcases h with ⟨p, q, hp, hR, hRf⟩ | ⟨i, p, q, p', hi1, hi3, hqp, hR, hRf⟩
  · have hbl := heap_lt hR
    have bad2 : ∀ W, (∃ p1 : Int, Rd W b s p1 (sen (a 2)) p) → ∀ p2 : Int, Rf W c s p2 3 p → Rel W b c s a := fun W ⟨p1, h1⟩ p2 h2 => .inr ⟨2, p1, p, p2, by omega, by omega, fun _ => by omega, h1, h2⟩
    have bad1 : ∀ W, (∃ p1 : Int, Rd W b s p1 (sen (a 1)) q) → ∀ p2 : Int, Rf W c s p2 2 (-1) → Rel W b c s a := fun W ⟨p1, h1⟩ p2 h2 => .inr ⟨1, p1, q, p2, by omega, by omega, fun h => by omega, h1, h2⟩
    have bad3 : ∀ W, (∃ p1 : Int, Rd W b s p1 (sen (a 3)) q) → ∀ p2 : Int, Rf W c s p2 4 (-1) → Rel W b c s a := fun W ⟨p1, h1⟩ p2 h2 => .inr ⟨3, p1, q, p2, by omega, by omega, fun h => by omega, h1, h2⟩
    rcases h4 with h4 | h4 | h4 | h4
    · by_cases hn : wd < 1 ∨ 8 < wd
      · exact both0 hA h4 hbl hbc 0 (fun W => ∃ p1 : Int, Rd W b s p1 (sen (a 1)) q) (fun W => Rf W c s p 0 0) (fun W => Rf W c s p 2 (-1)) (kE _ _) (kF _ _ _) (kF _ _ _) (kL _ _ _) hRf (fun W h1 h2 => bad1 W h1 _ h2)
          (fun W fW => rfixed_arg b s p wd q (a 1) W (hR.fr fW (fun f => f)) hn (hS.fr fW (fun _ _ f => f)).c1) (fun W hW => ffixed_arg c s p 0 wd W hW hn)
      · obtain ⟨m, rfl⟩ : ∃ m : Nat, wd = m := ⟨wd.toNat, by omega⟩
        by_cases hl : p + m ≤ s.size
        · exact both0 hA h4 hbl hbc _ (fun W => Rd W b s ((p + m : Nat) : Int) .nilIface q) (fun W => Rf W c s p 0 0) (fun W => Rf W c s ((p + m : Nat) : Int) 0 0) (kD _ _ _) (kF _ _ _) (kF _ _ _) (kL _ _ _) hRf (fun W h1 h2 => .inl ⟨p + m, q, hl, h1, h2⟩)
            (fun W fW => rfixed_yes b s p m q W (hR.fr fW (fun f => f)) hl (by omega) (by omega) hsm) (fun W hW => ffixed_yes c s p m 0 W hW hl (by omega) (by omega) hsm)
        · exact both0 hA h4 hbl hbc 0 (fun W => ∃ p1 : Int, Rd W b s p1 (sen (a 2)) p) (fun W => Rf W c s p 0 0) (fun W => Rf W c s p 3 p) (kE _ _) (kF _ _ _) (kF _ _ _) (kL _ _ _) hRf (fun W h1 h2 => bad2 W h1 _ h2)
            (fun W fW => rfixed_short b s p m q (a 2) W (hR.fr fW (fun f => f)) hp (by omega) (by omega) (by omega) hsm (hS.fr fW (fun _ _ f => f)).c2 (by omega) (by have := fW.size; omega)) (fun W hW => ffixed_short c s p m 0 W hW hp (by omega) (by omega) (by omega) hsm)
    · rcases hv : rvGo 0 (s.data.toList.drop p) with _ | ⟨v, k⟩
      · exact both1 hA h4 hbl hbc 0 (fun W => ∃ p1 : Int, Rd W b s p1 (sen (a 2)) p) (fun W => Rf W c s p 0 0) (fun W => Rf W c s p 3 p) (kE _ _) (kF _ _ _) (kF _ _ _) (kL _ _ _) hRf (fun W h1 h2 => bad2 W h1 _ h2)
          (fun W fW => rvar_no b s p q (a 2) W (hR.fr fW (fun f => f)) hp hsm hv (hS.fr fW (fun _ _ f => f)).c2 (by omega) (by have := fW.size; omega)) (fun W hW => fvar_no c s p 0 W hW hp hs hv)
      · have r2 := (rv_form _ 0 v k (by omega) hv).2.1
        have hdl := dlen s p
        exact both1 hA h4 hbl hbc v (fun W => Rd W b s ((p + k : Nat) : Int) .nilIface q) (fun W => Rf W c s p 0 0) (fun W => Rf W c s ((p + k : Nat) : Int) 0 0) (kD _ _ _) (kF _ _ _) (kF _ _ _) (kL _ _ _) hRf (fun W h1 h2 => .inl ⟨p + k, q, by omega, h1, h2⟩)
          (fun W fW => (rvar_yes b s p v k q W (hR.fr fW (fun f => f)) hp hsm hv).mono (fun e w' h => ⟨h.1, h.2.1, h.2.2.2⟩)) (fun W hW => fvar_yes c s p v k 0 W hW hp hs hv)
    · have hw2 := hA.w2
      by_cases hneg : wd < 0
      · exact both2 hA h4 hbl hbc ⟨#[]⟩ (fun W => ∃ p1 : Int, Rd W b s p1 (sen (a 1)) q) (fun W => Rf W c s p 0 0) (fun W => Rf W c s p 2 (-1)) (kE _ _) (kF _ _ _) (kF _ _ _) (kL _ _ _) hRf (fun W h1 h2 => bad1 W h1 _ h2)
          (fun W fW => rtext_arg b s p wd q (a 1) W (hR.fr fW (fun f => f)) hneg (hS.fr fW (fun _ _ f => f)).c1) (fun W hW => ftext_arg c s p 0 wd W hW hneg)
      · obtain ⟨m, rfl⟩ : ∃ m : Nat, wd = m := ⟨wd.toNat, by omega⟩
        rcases hv : rvGo 0 (s.data.toList.drop p) with _ | ⟨v, k⟩
        · exact both2 hA h4 hbl hbc ⟨#[]⟩ (fun W => ∃ p1 : Int, Rd W b s p1 (sen (a 2)) p) (fun W => Rf W c s p 0 0) (fun W => Rf W c s p 3 p) (kE _ _) (kF _ _ _) (kF _ _ _) (kL _ _ _) hRf (fun W h1 h2 => bad2 W h1 _ h2)
            (fun W fW => rtext_form b s p m q (a 2) W (hR.fr fW (fun f => f)) hp hsm (by omega) hv (hS.fr fW (fun _ _ f => f)).c2 (by omega) (by have := fW.size; omega)) (fun W hW => ftext_form c s p 0 m W hW hp hs (by omega) hv)
        · have r2 := (rv_form _ 0 v k (by omega) hv).2.1
          have hdl := dlen s p
          by_cases hm : m < v
          · exact both2 hA h4 hbl hbc ⟨#[]⟩ (fun W => ∃ p1 : Int, Rd W b s p1 (sen (a 3)) q) (fun W => Rf W c s p 0 0) (fun W => Rf W c s ((p + k : Nat) : Int) 4 (-1)) (kE _ _) (kF _ _ _) (kF _ _ _) (kL _ _ _) hRf (fun W h1 h2 => bad3 W h1 _ h2)
              (fun W fW => rtext_limit b s p v k m q (a 3) W (hR.fr fW (fun f => f)) hp hsm hv hm (by omega) (hS.fr fW (fun _ _ f => f)).c3 (by omega) (by have := fW.size; omega)) (fun W hW => ftext_limit c s p v k m 0 W hW hp hs hv hm (by omega))
          · by_cases hl : p + k + v ≤ s.size
            · exact both2 hA h4 hbl hbc (sub s (p + k) v) (fun W => Rd W b s ((p + k + v : Nat) : Int) .nilIface q) (fun W => Rf W c s p 0 0) (fun W => Rf W c s ((p + k + v : Nat) : Int) 0 0) (kD _ _ _) (kF _ _ _) (kF _ _ _) (kL _ _ _) hRf (fun W h1 h2 => .inl ⟨p + k + v, q, hl, h1, h2⟩)
                (fun W fW => rtext_yes b s p v k m q W (hR.fr fW (fun f => f)) hp hs hv (by omega) (by omega) hl) (fun W hW => ftext_yes c s p v k m 0 W hW hp hs hv (by omega) (by omega) hl)
            · exact both2 hA h4 hbl hbc ⟨#[]⟩ (fun W => ∃ p1 : Int, Rd W b s p1 (sen (a 2)) p) (fun W => Rf W c s p 0 0) (fun W => Rf W c s ((p + k : Nat) : Int) 3 p) (kE _ _) (kF _ _ _) (kF _ _ _) (kL _ _ _) hRf (fun W h1 h2 => bad2 W h1 _ h2)
                (fun W fW => rtext_short b s p v k m q (a 2) W (hR.fr fW (fun f => f)) hp hs hv (by omega) (by omega) (by omega) (hS.fr fW (fun _ _ f => f)).c2 (by omega) (by have := fW.size; omega)) (fun W hW => ftext_short c s p v k m 0 W hW hp hs hv (by omega) (by omega) (by omega) (by omega))
    · by_cases hl : p + 32 ≤ s.size
      · have hdl := dlen s p
        exact both3 hA h4 hbl hbc ((s.data.toList.drop p).take 32) (by rw [List.length_take]; omega) (fun W => Rd W b s ((p + 32 : Nat) : Int) .nilIface q) (fun W => Rf W c s p 0 0) (fun W => Rf W c s ((p + 32 : Nat) : Int) 0 0) (kD _ _ _) (kF _ _ _) (kF _ _ _) (kL _ _ _) hRf (fun W h1 h2 => .inl ⟨p + 32, q, hl, h1, h2⟩)
          (fun W fW => rhash_yes b s p q W (hR.fr fW (fun f => f)) hl hsm) (fun W hW => fhash_yes c s p 0 W hW hl hsm)
      · exact both3 hA h4 hbl hbc (List.replicate 32 0) (by simp) (fun W => ∃ p1 : Int, Rd W b s p1 (sen (a 2)) p) (fun W => Rf W c s p 0 0) (fun W => Rf W c s p 3 p) (kE _ _) (kF _ _ _) (kF _ _ _) (kL _ _ _) hRf (fun W h1 h2 => bad2 W h1 _ h2)
          (fun W fW => rhash_short b s p q (a 2) W (hR.fr fW (fun f => f)) hp (by omega) hsm (hS.fr fW (fun _ _ f => f)).c2 (by omega) (by have := fW.size; omega)) (fun W hW => fhash_short c s p 0 W hW hp (by omega) hsm)
  · have hbl := heap_lt hR
    have hc0 : (i : Int) + 1 ≠ 0 := by omega
    have fin : ∀ W, Rd W b s p (sen (a i)) q → Rf W c s p' ((i : Int) + 1) (plD i q) → Rel W b c s a := fun W h1 h2 => .inr ⟨i, p, q, p', hi1, hi3, hqp, h1, h2⟩
    rcases h4 with h4 | h4 | h4 | h4
    · refine both0 hA h4 hbl hbc 0 (fun W => Rd W b s p (sen (a i)) q) (fun W => Rf W c s p' ((i : Int) + 1) (plD i q)) (fun W => Rf W c s p' ((i : Int) + 1) (plD i q)) (kD _ _ _) (kF _ _ _) (kF _ _ _) (kL _ _ _) hRf fin (fun W fW => (rfixed_f b s p q wd (a i) W (hR.fr fW (fun f => f))).mono ?_) (fun W hW => (ffixed_bad c s p' _ _ wd W hW hc0).mono ?_)
      · rintro e w' ⟨rfl, rfl⟩; exact ⟨rfl, hR.fr fW (fun f => f), Fr.refl _ _⟩
      · rintro e w' ⟨rfl, hf⟩; exact ⟨rfl, hW.fr hf (fun f => f), hf.mono (fun _ _ f => f.elim)⟩
    · refine both1 hA h4 hbl hbc 0 (fun W => Rd W b s p (sen (a i)) q) (fun W => Rf W c s p' ((i : Int) + 1) (plD i q)) (fun W => Rf W c s p' ((i : Int) + 1) (plD i q)) (kD _ _ _) (kF _ _ _) (kF _ _ _) (kL _ _ _) hRf fin (fun W fW => (rvar_f b s p q (a i) W (hR.fr fW (fun f => f))).mono ?_) (fun W hW => (fvar_bad c s p' _ _ W hW hc0).mono ?_)
      · rintro e w' ⟨rfl, rfl⟩; exact ⟨rfl, hR.fr fW (fun f => f), Fr.refl _ _⟩
      · rintro e w' ⟨rfl, rfl⟩; exact ⟨rfl, hW, Fr.refl _ _⟩
    · refine both2 hA h4 hbl hbc ⟨#[]⟩ (fun W => Rd W b s p (sen (a i)) q) (fun W => Rf W c s p' ((i : Int) + 1) (plD i q)) (fun W => Rf W c s p' ((i : Int) + 1) (plD i q)) (kD _ _ _) (kF _ _ _) (kF _ _ _) (kL _ _ _) hRf fin (fun W fW => (rtext_f b s p q wd (a i) W (hR.fr fW (fun f => f))).mono ?_) (fun W hW => (ftext_bad c s p' _ _ wd W hW hc0).mono ?_)
      · rintro e w' ⟨rfl, rfl⟩; exact ⟨rfl, hR.fr fW (fun f => f), Fr.refl _ _⟩
      · rintro e w' ⟨rfl, hf⟩; exact ⟨rfl, hW.fr hf (fun f => f), hf.mono (fun _ _ f => f.elim)⟩
    · refine both3 hA h4 hbl hbc (List.replicate 32 0) (by simp) (fun W => Rd W b s p (sen (a i)) q) (fun W => Rf W c s p' ((i : Int) + 1) (plD i q)) (fun W => Rf W c s p' ((i : Int) + 1) (plD i q)) (kD _ _ _) (kF _ _ _) (kF _ _ _) (kL _ _ _) hRf fin (fun W fW => (rhash_f b s p q (a i) W (hR.fr fW (fun f => f))).mono ?_) (fun W hW => fhash_bad c s p' _ _ W hW hc0)
      · rintro e w' ⟨rfl, hf⟩; exact ⟨rfl, (hR.fr fW (fun f => f)).fr hf (fun f => f), hf.mono (fun _ _ f => f.elim)⟩
end Go.Proofs.YtebbgpnhkpbefaaDoor
