/- What took reads, put again, has the bytes that were read; what it answers of a fault is put in few bytes. -/
import Derived.Test.YtlkkadkdanjfoaaDoorP1
namespace Go.Proofs.YtlkkadkdanjfoaaDoor
open Go.RowKit
set_option linter.unusedVariables false
set_option linter.unusedSimpArgs false

/-- Behind a read: it stands further on, and the thing has the bytes between; or a fault, and the thing is a zero one. -/
def Rp (w' : World) (b : Nat) (s : ByteArray) (a : Nat → Addr) (p : Nat) (V : Array Value) : Prop :=
  (∃ (p' : Nat) (q' : Int), p ≤ p' ∧ p' ≤ s.size ∧ Rd w' b s p' .nilIface q' ∧ Forms V ((s.data.toList.drop p).take (p' - p))) ∨
  (∃ (i : Nat) (p' q' : Int), 1 ≤ i ∧ i ≤ 3 ∧ Rd w' b s p' (sen (a i)) q' ∧ ∃ k wd' : Int, 0 ≤ k ∧ k ≤ 3 ∧ V = tZ k 0 wd' ⟨#[]⟩)
theorem Rp.fr {w w' : World} {b : Nat} {s : ByteArray} {a : Nat → Addr} {p : Nat} {V : Array Value} {S : Nat → Prop} (h : Rp w b s a p V) (hf : Fr S w w') (hb : ¬ S b) : Rp w' b s a p V := by
  rcases h with ⟨p', q, h1, h2, h3, h4⟩ | ⟨i, p', q, h1, h2, h3, h4⟩
  · exact .inl ⟨p', q, h1, h2, h3.fr hf hb, h4⟩
  · exact .inr ⟨i, p', q, h1, h2, h3.fr hf hb, h4⟩
theorem drop_len (s : ByteArray) (p : Nat) : (s.data.toList.drop p).length = s.size - p := by
  rw [List.length_drop, Array.length_toList]; rfl

theorem took_p {B b : Nat} {s : ByteArray} {p : Nat} {q : Int} {w : World} {a : Nat → Addr} {A : Array Value} {kd wd : Int} (hS : Sent B w a) (hb : B ≤ b) (h : Rd w b s p .nilIface q) (hp : p ≤ s.size) (hs : s.size ≤ 1000000000) (hA : Tg A kd wd) :
    Calls Tryd.prog 18 #[.pointer (some ⟨b, 0, none⟩), .agg A] w fun e w' => ∃ V, e = .returned (.agg V) ∧ V.size = 37 ∧ (∀ u ∈ V.toList, u.oneCell' = true) ∧ Rp w' b s a p V ∧ Fr (fun j => j = b) w w' := by
  have hbl := heap_lt h
  have hsm : s.size ≤ maxLen := by unfold maxLen; omega
  have hNB := hS.hB
  have hsz := hS.hsz
  have hdl := drop_len s p
  have h4 : kd % 4 = 0 ∨ kd % 4 = 1 ∨ kd % 4 = 2 ∨ kd % 4 = 3 := by omega
  rcases h4 with h4 | h4 | h4 | h4
  · refine (took0 b A kd wd w (fun v w' => Rp w' b s a p (tZ 0 v wd ⟨#[]⟩)) hbl hA.size hA.k hA.w hA.k1 hA.k2 h4 (fun w1 f1 => ?_) (fun v w' w'' S hv hf hS => hv.fr hf hS)).mono ?_
    · have hS1 := hS.fr f1 (fun _ _ f => f)
      have h1 := h.fr f1 (fun f => f)
      have fs := f1.size
      by_cases hn : wd < 1 ∨ 8 < wd
      · refine (rfixed_arg b s p wd q (a 1) w1 h1 hn hS1.c1).mono ?_
        rintro e w' ⟨rfl, ⟨p', h'⟩, hf⟩
        exact ⟨_, rfl, .inr ⟨1, p', q, by omega, by omega, h', 0, wd, by omega, by omega, rfl⟩, hf⟩
      · obtain ⟨m, rfl⟩ : ∃ m : Nat, wd = m := ⟨wd.toNat, by omega⟩
        by_cases hl : p + m ≤ s.size
        · refine (rfixed_yes b s p m q w1 h1 hl (by omega) (by omega) hsm).mono ?_
          rintro e w' ⟨rfl, h', hf⟩
          have hlen : ((s.data.toList.drop p).take m).length = m := by rw [List.length_take]; omega
          have hF := forms0 (fxN ((s.data.toList.drop p).take m)) m ⟨#[]⟩ (by omega) (by omega) (by have := fxN_lt ((s.data.toList.drop p).take m); rwa [hlen] at this)
          have hfx := fix_form ((s.data.toList.drop p).take m)
          rw [hlen] at hfx
          rw [hfx] at hF
          exact ⟨_, rfl, .inl ⟨p + m, q, by omega, hl, h', by rw [Nat.add_sub_cancel_left]; exact hF⟩, hf⟩
        · refine (rfixed_short b s p m q (a 2) w1 h1 hp (by omega) (by omega) (by omega) hsm hS1.c2 (by omega) (by omega)).mono ?_
          rintro e w' ⟨rfl, ⟨p', h'⟩, hf⟩
          exact ⟨_, rfl, .inr ⟨2, p', p, by omega, by omega, h', 0, m, by omega, by omega, rfl⟩, hf⟩
    · rintro e w' ⟨v, rfl, h1, h2⟩; exact ⟨_, rfl, rfl, tZ_one _ _ _ _, h1, h2⟩
  · refine (took1 b A kd w (fun v w' => Rp w' b s a p (tZ 1 v 0 ⟨#[]⟩)) hbl hA.size hA.k hA.k1 hA.k2 h4 (fun w1 f1 => ?_) (fun v w' w'' S hv hf hS => hv.fr hf hS)).mono ?_
    · have hS1 := hS.fr f1 (fun _ _ f => f)
      have h1 := h.fr f1 (fun f => f)
      have fs := f1.size
      rcases hv : rvGo 0 (s.data.toList.drop p) with _ | ⟨v, k⟩
      · refine (rvar_no b s p q (a 2) w1 h1 hp hsm hv hS1.c2 (by omega) (by omega)).mono ?_
        rintro e w' ⟨rfl, ⟨p', h'⟩, hf⟩
        exact ⟨_, rfl, .inr ⟨2, p', p, by omega, by omega, h', 1, 0, by omega, by omega, rfl⟩, hf⟩
      · obtain ⟨r1, r2, _, r4⟩ := rv_form _ 0 v k (by omega) hv
        refine (rvar_yes b s p v k q w1 h1 hp hsm hv).mono ?_
        rintro e w' ⟨rfl, h', hk, hf⟩
        have hF := forms1 v 0 ⟨#[]⟩ r4
        rw [← r1] at hF
        exact ⟨_, rfl, .inl ⟨p + k, q, by omega, hk, h', by rw [Nat.add_sub_cancel_left]; exact hF⟩, hf⟩
    · rintro e w' ⟨v, rfl, h1, h2⟩; exact ⟨_, rfl, rfl, tZ_one _ _ _ _, h1, h2⟩
  · refine (took2 b A kd wd w (fun v w' => Rp w' b s a p (tZ 2 0 0 v)) hbl hA.size hA.k hA.w hA.k1 hA.k2 h4 (fun w1 f1 => ?_) (fun v w' w'' S hv hf hS => hv.fr hf hS)).mono ?_
    · have hS1 := hS.fr f1 (fun _ _ f => f)
      have h1 := h.fr f1 (fun f => f)
      have fs := f1.size
      have hw2 := hA.w2
      by_cases hneg : wd < 0
      · refine (rtext_arg b s p wd q (a 1) w1 h1 hneg hS1.c1).mono ?_
        rintro e w' ⟨rfl, ⟨p', h'⟩, hf⟩
        exact ⟨_, rfl, .inr ⟨1, p', q, by omega, by omega, h', 2, 0, by omega, by omega, rfl⟩, hf⟩
      · obtain ⟨m, rfl⟩ : ∃ m : Nat, wd = m := ⟨wd.toNat, by omega⟩
        rcases hv : rvGo 0 (s.data.toList.drop p) with _ | ⟨v, k⟩
        · refine (rtext_form b s p m q (a 2) w1 h1 hp hsm (by omega) hv hS1.c2 (by omega) (by omega)).mono ?_
          rintro e w' ⟨rfl, ⟨p', h'⟩, hf⟩
          exact ⟨_, rfl, .inr ⟨2, p', p, by omega, by omega, h', 2, 0, by omega, by omega, rfl⟩, hf⟩
        · obtain ⟨r1, r2, _, r4⟩ := rv_form _ 0 v k (by omega) hv
          by_cases hm : m < v
          · refine (rtext_limit b s p v k m q (a 3) w1 h1 hp hsm hv hm (by omega) hS1.c3 (by omega) (by omega)).mono ?_
            rintro e w' ⟨rfl, ⟨p', h'⟩, hf⟩
            exact ⟨_, rfl, .inr ⟨3, p', q, by omega, by omega, h', 2, 0, by omega, by omega, rfl⟩, hf⟩
          · by_cases hl : p + k + v ≤ s.size
            · refine (rtext_yes b s p v k m q w1 h1 hp (by omega) hv (by omega) (by omega) hl).mono ?_
              rintro e w' ⟨rfl, h', hf⟩
              have hz := sub_size s (p + k) v hl
              have hF := forms2 0 0 (sub s (p + k) v) (by omega)
              rw [hz, sub_list, ← r1, ← List.drop_drop, ← List.take_add] at hF
              exact ⟨_, rfl, .inl ⟨p + k + v, q, by omega, hl, h', by rw [show p + k + v - p = k + v by omega]; exact hF⟩, hf⟩
            · refine (rtext_short b s p v k m q (a 2) w1 h1 hp (by omega) hv (by omega) (by omega) (by omega) hS1.c2 (by omega) (by omega)).mono ?_
              rintro e w' ⟨rfl, ⟨p', h'⟩, hf⟩
              exact ⟨_, rfl, .inr ⟨2, p', p, by omega, by omega, h', 2, 0, by omega, by omega, rfl⟩, hf⟩
    · rintro e w' ⟨v, rfl, h1, h2⟩; exact ⟨_, rfl, rfl, tZ_one _ _ _ _, h1, h2⟩
  · refine (took3 b A kd w (fun v w' => Rp w' b s a p (tH v)) hbl hA.size hA.k hA.k1 hA.k2 h4 (fun w1 f1 => ?_) (fun v w' w'' S hv hf hS => hv.fr hf hS)).mono ?_
    · have hS1 := hS.fr f1 (fun _ _ f => f)
      have h1 := h.fr f1 (fun f => f)
      have fs := f1.size
      by_cases hl : p + 32 ≤ s.size
      · refine (rhash_yes b s p q w1 h1 hl hsm).mono ?_
        rintro e w' ⟨rfl, h', hf⟩
        have hlen : ((s.data.toList.drop p).take 32).length = 32 := by rw [List.length_take]; omega
        exact ⟨_, hlen, rfl, .inl ⟨p + 32, q, by omega, hl, h', by rw [Nat.add_sub_cancel_left]; exact forms3 _ hlen⟩, hf⟩
      · refine (rhash_short b s p q (a 2) w1 h1 hp (by omega) hsm hS1.c2 (by omega) (by omega)).mono ?_
        rintro e w' ⟨rfl, ⟨p', h'⟩, hf⟩
        exact ⟨List.replicate 32 0, by simp, rfl, .inr ⟨2, p', p, by omega, by omega, h', 3, 0, by omega, by omega, rfl⟩, hf⟩
    · rintro e w' ⟨v, hv, rfl, h1, h2⟩; exact ⟨_, rfl, by simp [tH, bc_len, hv], tH_one v, h1, h2⟩

/-- took of a reader with a fault: a zero thing of one of the four kinds. -/
theorem took_z {b : Nat} {s : ByteArray} {p q : Int} {x : Addr} {w : World} {A : Array Value} {kd wd : Int} (h : Rd w b s p (sen x) q) (hA : Tg A kd wd) :
    Calls Tryd.prog 18 #[.pointer (some ⟨b, 0, none⟩), .agg A] w fun e w' => (∃ k wd' : Int, 0 ≤ k ∧ k ≤ 3 ∧ e = .returned (.agg (tZ k 0 wd' ⟨#[]⟩))) ∧ Rd w' b s p (sen x) q ∧ Fr (fun j => j = b) w w' := by
  have hbl := heap_lt h
  have h4 : kd % 4 = 0 ∨ kd % 4 = 1 ∨ kd % 4 = 2 ∨ kd % 4 = 3 := by omega
  rcases h4 with h4 | h4 | h4 | h4
  · refine (took0 b A kd wd w (fun v w' => v = 0 ∧ Rd w' b s p (sen x) q) hbl hA.size hA.k hA.w hA.k1 hA.k2 h4 (fun w1 f1 => ?_) (fun v w' w'' S hv hf hS => ⟨hv.1, hv.2.fr hf hS⟩)).mono ?_
    · refine (rfixed_f b s p q wd x w1 (h.fr f1 (fun f => f))).mono ?_
      rintro e w' ⟨rfl, rfl⟩; exact ⟨0, rfl, ⟨rfl, h.fr f1 (fun f => f)⟩, Fr.refl _ _⟩
    · rintro e w' ⟨v, rfl, ⟨rfl, h1⟩, h2⟩; exact ⟨⟨0, _, by omega, by omega, rfl⟩, h1, h2⟩
  · refine (took1 b A kd w (fun v w' => v = 0 ∧ Rd w' b s p (sen x) q) hbl hA.size hA.k hA.k1 hA.k2 h4 (fun w1 f1 => ?_) (fun v w' w'' S hv hf hS => ⟨hv.1, hv.2.fr hf hS⟩)).mono ?_
    · refine (rvar_f b s p q x w1 (h.fr f1 (fun f => f))).mono ?_
      rintro e w' ⟨rfl, rfl⟩; exact ⟨0, rfl, ⟨rfl, h.fr f1 (fun f => f)⟩, Fr.refl _ _⟩
    · rintro e w' ⟨v, rfl, ⟨rfl, h1⟩, h2⟩; exact ⟨⟨1, _, by omega, by omega, rfl⟩, h1, h2⟩
  · refine (took2 b A kd wd w (fun v w' => v = ⟨#[]⟩ ∧ Rd w' b s p (sen x) q) hbl hA.size hA.k hA.w hA.k1 hA.k2 h4 (fun w1 f1 => ?_) (fun v w' w'' S hv hf hS => ⟨hv.1, hv.2.fr hf hS⟩)).mono ?_
    · refine (rtext_f b s p q wd x w1 (h.fr f1 (fun f => f))).mono ?_
      rintro e w' ⟨rfl, rfl⟩; exact ⟨⟨#[]⟩, rfl, ⟨rfl, h.fr f1 (fun f => f)⟩, Fr.refl _ _⟩
    · rintro e w' ⟨v, rfl, ⟨rfl, h1⟩, h2⟩; exact ⟨⟨2, _, by omega, by omega, rfl⟩, h1, h2⟩
  · refine (took3 b A kd w (fun v w' => v = List.replicate 32 0 ∧ Rd w' b s p (sen x) q) hbl hA.size hA.k hA.k1 hA.k2 h4 (fun w1 f1 => ?_) (fun v w' w'' S hv hf hS => ⟨hv.1, hv.2.fr hf hS⟩)).mono ?_
    · refine (rhash_f b s p q x w1 (h.fr f1 (fun f => f))).mono ?_
      rintro e w' ⟨rfl, hf⟩; exact ⟨List.replicate 32 0, by simp, rfl, ⟨rfl, (h.fr f1 (fun f => f)).fr hf (fun f => f)⟩, hf.mono (fun _ _ f => f.elim)⟩
    · rintro e w' ⟨v, _, rfl, ⟨rfl, h1⟩, h2⟩; exact ⟨⟨3, 0, by omega, by omega, rfl⟩, h1, h2⟩

/-- A zero thing is put in few bytes, or not at all. -/
theorem put_z {B b : Nat} {v : Value} {l : List UInt8} {w : World} {a : Nat → Addr} (hS : Sent B w a) (hW : Wr w b v l) (hl : l.length ≤ 1000000000000) (k wd : Int) (h0 : 0 ≤ k) (h3 : k ≤ 3) :
    Calls Tryd.prog 13 #[.pointer (some ⟨b, 0, none⟩), .agg (tZ k 0 wd ⟨#[]⟩)] w fun e w' => ∃ ev, e = .returned ev ∧ ((ev = .nilIface ∨ ∃ t u, ev = .iface t u) ∧ ∃ v' l', Wr w' b v' l' ∧ l'.length ≤ l.length + 32) ∧ Fr (WS b) w w' := by
  have key : ∀ (V : Array Value) (F : List UInt8), Forms V F → F.length ≤ 32 → Calls Tryd.prog 13 #[.pointer (some ⟨b, 0, none⟩), .agg V] w fun e w' => ∃ ev, e = .returned ev ∧ ((ev = .nilIface ∨ ∃ t u, ev = .iface t u) ∧ ∃ v' l', Wr w' b v' l' ∧ l'.length ≤ l.length + 32) ∧ Fr (WS b) w w' := fun V F hF hFl => by
    refine (hF w b v l hW hl).mono ?_
    rintro e w' ⟨ev, rfl, ⟨rfl, v', h'⟩, hf⟩
    exact ⟨_, rfl, ⟨.inl rfl, v', _, h', by rw [List.length_append]; omega⟩, hf⟩
  have h4 : k = 0 ∨ k = 1 ∨ k = 2 ∨ k = 3 := by omega
  rcases h4 with rfl | rfl | rfl | rfl
  · by_cases hn : wd < 1 ∨ 8 < wd
    · refine put0 b _ 0 wd w (fun ev w' => (ev = .nilIface ∨ ∃ t u, ev = .iface t u) ∧ ∃ v' l', Wr w' b v' l' ∧ l'.length ≤ l.length + 32) rfl rfl rfl rfl (fun w1 f1 => ?_)
      have hW1 := hW.fr f1 (fun f => f) (fun _ _ f => f)
      refine (wfixed_width b (a 1) 0 wd w1 ((cell_of hW1.blk 0).trans rfl) hn (hS.fr f1 (fun _ _ f => f)).c1).mono ?_
      rintro e w' ⟨rfl, rfl⟩
      exact ⟨_, rfl, ⟨.inr ⟨_, _, rfl⟩, v, l, hW1, by omega⟩, Fr.refl _ _⟩
    · obtain ⟨m, rfl⟩ : ∃ m : Nat, wd = m := ⟨wd.toNat, by omega⟩
      exact key _ _ (forms0 0 m ⟨#[]⟩ (by omega) (by omega) (Nat.pow_pos (by omega))) (by rw [fixB_len]; omega)
  · exact key _ _ (forms1 0 wd ⟨#[]⟩ (by omega)) (by rw [varB_lt (by omega)]; decide)
  · exact key _ _ (forms2 0 wd ⟨#[]⟩ (by decide)) (by rw [show (⟨#[]⟩ : ByteArray).size = 0 from rfl, varB_lt (by omega)]; decide)
  · refine put3 b _ zH w (fun ev w' => (ev = .nilIface ∨ ∃ t u, ev = .iface t u) ∧ ∃ v' l', Wr w' b v' l' ∧ l'.length ≤ l.length + 32) rfl rfl rfl (fun j hj => ?_) (fun w1 f1 => ?_)
    · have hall : ∀ j : Fin 32, (tZ 3 0 wd ⟨#[]⟩)[5 + j.val]? = zH[j.val]? := fun j => by
        match j with
        | ⟨j, hj⟩ =>
          have : j < 32 := hj
          rcases j with _|_|_|_|_|_|_|_|_|_|_|_|_|_|_|_|_|_|_|_|_|_|_|_|_|_|_|_|_|_|_|_|j <;> first | rfl | omega
      exact hall ⟨j, hj⟩
    · have hW1 := hW.fr f1 (fun f => f) (fun _ _ f => f)
      refine (whash b v l (List.replicate 32 0) w1 hW1 (by simp) hl).mono ?_
      rintro e w' ⟨rfl, v', h', hf⟩
      exact ⟨_, rfl, ⟨.inl rfl, v', _, h', by simp⟩, hf⟩
end Go.Proofs.YtlkkadkdanjfoaaDoor
