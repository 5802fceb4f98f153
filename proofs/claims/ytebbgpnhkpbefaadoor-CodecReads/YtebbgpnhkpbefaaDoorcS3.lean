/- took of a reader that stands somewhere, and of one with a fault; how one with a fault ends; things in memory. -/
import Derived.Test.YtebbgpnhkpbefaaDoorcS2
namespace Go.Proofs.YtebbgpnhkpbefaaDoor
open Go.RowKit
set_option linter.unusedVariables false
set_option linter.unusedSimpArgs false

/-- A thing's cells: its kind and its width are told. -/
structure Tg (A : Array Value) (kd wd : Int) : Prop where
  size : A.size = 37
  k : A[1]? = some (.int .i64 kd)
  w : A[3]? = some (.int .i64 wd)
  k1 : -9223372036854775808 ≤ kd
  k2 : kd ≤ 9223372036854775807
  w1 : -9223372036854775808 ≤ wd
  w2 : wd ≤ 9223372036854775807

theorem Rd.fr' {S : Nat → Prop} {w w' : World} {b : Nat} {s : ByteArray} {p : Int} {f : Value} {q : Int} (h : Rd w b s p f q) (hf : Fr S w w') (hb : ¬ S b) : Rd w' b s p f q := h.fr hf hb

theorem took_c {B b : Nat} {s : ByteArray} {p : Nat} {q : Int} {w : World} {a : Nat → Addr} {A : Array Value} {kd wd : Int} (hS : Sent B w a) (hb : B ≤ b) (h : Rd w b s p .nilIface q) (hp : p ≤ s.size) (hs : s.size ≤ 140737488355328) (hA : Tg A kd wd) :
    Calls Tryd.prog 7 #[.pointer (some ⟨b, 0, none⟩), .agg A] w fun e w' => (∃ v, e = .returned (.agg v)) ∧ Aft w' b s a p ∧ Fr (fun j => j = b) w w' := by
  have hbl := heap_lt h
  have h4 : kd % 4 = 0 ∨ kd % 4 = 1 ∨ kd % 4 = 2 ∨ kd % 4 = 3 := by omega
  rcases h4 with h4 | h4 | h4 | h4
  · refine (took0 b A kd wd w (fun _ w' => Aft w' b s a p) hbl hA.size hA.k hA.w hA.k1 hA.k2 h4 (fun w1 f1 => ?_) (fun v w' w'' S hv hf hS => hv.fr hf hS)).mono ?_
    · exact rfixed_c (hS.fr f1 (fun _ _ f => f)) hb (h.fr f1 (fun f => f)) hp hs wd
    · rintro e w' ⟨v, rfl, h1, h2⟩; exact ⟨⟨_, rfl⟩, h1, h2⟩
  · refine (took1 b A kd w (fun _ w' => Aft w' b s a p) hbl hA.size hA.k hA.k1 hA.k2 h4 (fun w1 f1 => ?_) (fun v w' w'' S hv hf hS => hv.fr hf hS)).mono ?_
    · exact rvar_c (hS.fr f1 (fun _ _ f => f)) hb (h.fr f1 (fun f => f)) hp hs
    · rintro e w' ⟨v, rfl, h1, h2⟩; exact ⟨⟨_, rfl⟩, h1, h2⟩
  · refine (took2 b A kd wd w (fun _ w' => Aft w' b s a p) hbl hA.size hA.k hA.w hA.k1 hA.k2 h4 (fun w1 f1 => ?_) (fun v w' w'' S hv hf hS => hv.fr hf hS)).mono ?_
    · exact rtext_c (hS.fr f1 (fun _ _ f => f)) hb (h.fr f1 (fun f => f)) hp hs wd hA.w2
    · rintro e w' ⟨v, rfl, h1, h2⟩; exact ⟨⟨_, rfl⟩, h1, h2⟩
  · refine (took3 b A kd w (fun _ w' => Aft w' b s a p) hbl hA.size hA.k hA.k1 hA.k2 h4 (fun w1 f1 => ?_) (fun v w' w'' S hv hf hS => hv.fr hf hS)).mono ?_
    · exact rhash_c (hS.fr f1 (fun _ _ f => f)) hb (h.fr f1 (fun f => f)) hp hs
    · rintro e w' ⟨v, _, rfl, h1, h2⟩; exact ⟨⟨_, rfl⟩, h1, h2⟩

theorem fr_none {w w' : World} {b : Nat} {s : ByteArray} {p p' q q' : Int} {f : Value} (h : Fr (fun j => j = b) w w') (h0 : Rd w b s p f q) (h1 : Rd w' b s p f q) : Fr (fun _ => False) w w' :=
  ⟨h.os, h.tape, h.output, h.size, fun k hk _ => by
    by_cases e : k = b
    · subst e; exact h1.trans h0.symm
    · exact h.block k hk e⟩
theorem took_f {b : Nat} {s : ByteArray} {p q : Int} {x : Addr} {w : World} {A : Array Value} {kd wd : Int} (h : Rd w b s p (sen x) q) (hA : Tg A kd wd) :
    Calls Tryd.prog 7 #[.pointer (some ⟨b, 0, none⟩), .agg A] w fun e w' => (∃ k wd' : Int, e = .returned (.agg (tZ k 0 wd' ⟨#[]⟩))) ∧ Rd w' b s p (sen x) q ∧ Fr (fun _ => False) w w' := by
  have hbl := heap_lt h
  have h4 : kd % 4 = 0 ∨ kd % 4 = 1 ∨ kd % 4 = 2 ∨ kd % 4 = 3 := by omega
  rcases h4 with h4 | h4 | h4 | h4
  · refine (took0 b A kd wd w (fun v w' => v = 0 ∧ Rd w' b s p (sen x) q) hbl hA.size hA.k hA.w hA.k1 hA.k2 h4 (fun w1 f1 => ?_) (fun v w' w'' S hv hf hS => ⟨hv.1, hv.2.fr hf hS⟩)).mono ?_
    · refine (rfixed_f b s p q wd x w1 (h.fr f1 (fun f => f))).mono ?_
      rintro e w' ⟨rfl, rfl⟩; exact ⟨0, rfl, ⟨rfl, h.fr f1 (fun f => f)⟩, Fr.refl _ _⟩
    · rintro e w' ⟨v, rfl, ⟨rfl, h1⟩, h2⟩; exact ⟨⟨_, _, rfl⟩, h1, fr_none (p' := 0) (q' := 0) h2 h h1⟩
  · refine (took1 b A kd w (fun v w' => v = 0 ∧ Rd w' b s p (sen x) q) hbl hA.size hA.k hA.k1 hA.k2 h4 (fun w1 f1 => ?_) (fun v w' w'' S hv hf hS => ⟨hv.1, hv.2.fr hf hS⟩)).mono ?_
    · refine (rvar_f b s p q x w1 (h.fr f1 (fun f => f))).mono ?_
      rintro e w' ⟨rfl, rfl⟩; exact ⟨0, rfl, ⟨rfl, h.fr f1 (fun f => f)⟩, Fr.refl _ _⟩
    · rintro e w' ⟨v, rfl, ⟨rfl, h1⟩, h2⟩; exact ⟨⟨_, _, rfl⟩, h1, fr_none (p' := 0) (q' := 0) h2 h h1⟩
  · refine (took2 b A kd wd w (fun v w' => v = ⟨#[]⟩ ∧ Rd w' b s p (sen x) q) hbl hA.size hA.k hA.w hA.k1 hA.k2 h4 (fun w1 f1 => ?_) (fun v w' w'' S hv hf hS => ⟨hv.1, hv.2.fr hf hS⟩)).mono ?_
    · refine (rtext_f b s p q wd x w1 (h.fr f1 (fun f => f))).mono ?_
      rintro e w' ⟨rfl, rfl⟩; exact ⟨⟨#[]⟩, rfl, ⟨rfl, h.fr f1 (fun f => f)⟩, Fr.refl _ _⟩
    · rintro e w' ⟨v, rfl, ⟨rfl, h1⟩, h2⟩; exact ⟨⟨_, _, rfl⟩, h1, fr_none (p' := 0) (q' := 0) h2 h h1⟩
  · refine (took3 b A kd w (fun v w' => v = List.replicate 32 0 ∧ Rd w' b s p (sen x) q) hbl hA.size hA.k hA.k1 hA.k2 h4 (fun w1 f1 => ?_) (fun v w' w'' S hv hf hS => ⟨hv.1, hv.2.fr hf hS⟩)).mono ?_
    · refine (rhash_f b s p q x w1 (h.fr f1 (fun f => f))).mono ?_
      rintro e w' ⟨rfl, hf⟩; exact ⟨List.replicate 32 0, by simp, rfl, ⟨rfl, (h.fr f1 (fun f => f)).fr hf (fun f => f)⟩, hf.mono (fun _ _ f => f.elim)⟩
    · rintro e w' ⟨v, _, rfl, ⟨rfl, h1⟩, h2⟩; exact ⟨⟨3, 0, rfl⟩, h1, fr_none (p' := 0) (q' := 0) h2 h h1⟩

/-- The place that is told with the fault of that number. -/
def plF (i : Nat) (q : Int) : Option Int := if i = 2 then some q else none
theorem end_f {B b : Nat} {s : ByteArray} {p q : Int} {w : World} {a : Nat → Addr} (hS : Sent B w a) (i : Nat) (h1 : 1 ≤ i) (h3 : i ≤ 3) (h : Rd w b s p (sen (a i)) q) :
    Calls Tryd.prog 14 #[.pointer (some ⟨b, 0, none⟩)] w fun e w' => (∃ t u, e = .returned (.iface t u) ∧ EV w' a (.iface t u) (i + 1) (plF i q)) ∧ Fr (fun _ => False) w w' := by
  by_cases h2 : i = 2
  · subst h2
    refine (end_input b s p q (a 2) w h hS.c2).mono ?_
    rintro e w' ⟨rfl, hF, hf, _⟩
    exact ⟨⟨_, _, rfl, .inr (.inr ⟨2, _, q, by omega, rfl, hF, rfl, rfl⟩)⟩, hf⟩
  · obtain ⟨_, c2, t2, hb2⟩ := hS.blk 2 (by omega)
    obtain ⟨_, ci, ti, hbi⟩ := hS.blk i (by omega)
    refine (end_other b s p q (a 2) (a i) c2 ci t2 ti w h hS.c2 (hS.ne i 2 (by omega) (by omega) h2) hb2 hbi).mono ?_
    rintro e w' ⟨rfl, hf⟩
    exact ⟨⟨_, _, rfl, .inr (.inl ⟨i, by omega, rfl, rfl, by unfold plF; rw [if_neg h2]⟩)⟩, hf⟩

/-- A list of things in memory. -/
def Ths (w : World) (v : Value) (n : Nat) (A : Nat → Array Value) : Prop :=
  (∀ i, i < n → ∃ kd wd, Tg (A i) kd wd) ∧ ∃ a cap, v = .slice a n cap ∧ n ≤ 9223372036854775807 ∧ (0 < n → ∃ g off, a = some ⟨g, off, none⟩ ∧ g < w.heap.size ∧ ∀ i, i < n → ∀ j u, (A i)[j]? = some u → w.cell? ⟨g, off + i * 37 + j, none⟩ = some u)
theorem Ths.fr {w w' : World} {v : Value} {n : Nat} {A : Nat → Array Value} {S : Nat → Prop} (h : Ths w v n A) (hf : Fr S w w') (hS : ∀ k, k < w.heap.size → ¬ S k) : Ths w' v n A := by
  obtain ⟨h1, a, cap, rfl, hn, h2⟩ := h
  refine ⟨h1, a, cap, rfl, hn, fun h0 => ?_⟩
  obtain ⟨g, off, rfl, hg, hc⟩ := h2 h0
  exact ⟨g, off, rfl, Nat.lt_of_lt_of_le hg hf.size, fun i hi j u hu => (hf.cell (p := ⟨g, off + i * 37 + j, none⟩) hg (hS g hg)).trans (hc i hi j u hu)⟩

theorem wp_load_cells {P : Program} {w : World} {ops : Array Oper} {rest : List Oper} {o : Oper} {a : Act} {Q : Exit → Act → World → Prop} (hgd : o.guard = none) (x : Operand) (t : TypeId) (n : Nat) (ho : o.op = .load t x)
    (hagg : ∀ W : World, (isAgg t).run P W = .ok true W) (hsz : ∀ W : World, (sizeOf t).run P W = .ok n W) (g off : Nat) (hx : a.eval x = .pointer (some ⟨g, off, none⟩))
    (V : Array Value) (hV : V.size = n) (hc : ∀ j u, V[j]? = some u → w.cell? ⟨g, off + j, none⟩ = some u)
    (h : wpList P ops Q rest (a.put o.dst (.agg V)) w) : wpList P ops Q (o :: rest) a w := by
  refine wpList_plain hgd fun K hK => ?_
  have hl : (loadCells ⟨g, off, none⟩ n).run P w = .ok V w := by
    have := run_loadCells_list (P := P) w ⟨g, off, none⟩ V.toList (fun j v hv => by
      rw [addO]; exact hc j v (by simpa using hv))
    simpa [hV] using this
  unfold Oper.wp execOp
  simp only [ho, hx, Instr.loadAt, sure, loadVar, Sem.run_bind, Sem.run_pure, hagg, hsz, hl, Result.andThen_ok, if_true]
  exact hK _ _ h
end Go.Proofs.YtebbgpnhkpbefaaDoor
