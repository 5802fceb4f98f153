/- What took reads, put again, has the bytes that were read; what it answers of a fault is put in few bytes. -/
import Derived.Test.YtebbgpnhkpbefaaDoorcP1
namespace Go.Proofs.YtebbgpnhkpbefaaDoor
open Go.RowKit
set_option linter.unusedVariables false
set_option linter.unusedSimpArgs false

theorem drop_len (s : ByteArray) (p : Nat) : (s.data.toList.drop p).length = s.size - p := by
  rw [List.length_drop, Array.length_toList]; rfl

/-- took of a reader with a fault: a zero thing of one of the four kinds. -/
theorem took_z {b : Nat} {s : ByteArray} {p q : Int} {x : Addr} {w : World} {A : Array Value} {kd wd : Int} (h : Rd w b s p (sen x) q) (hA : Tg A kd wd) :
    Calls Tryd.prog 7 #[.pointer (some ⟨b, 0, none⟩), .agg A] w fun e w' => (∃ k wd' : Int, 0 ≤ k ∧ k ≤ 3 ∧ e = .returned (.agg (tZ k 0 wd' ⟨#[]⟩))) ∧ Rd w' b s p (sen x) q ∧ Fr (fun j => j = b) w w' := by
  have hbl := heap_lt h
  have h4 : kd % 4 = 0 ∨ kd % 4 = 1 ∨ kd % 4 = 2 ∨ kd % 4 = 3 := by omega
  rcases h4 with h4 | h4 | h4 | h4
  · refine (took0 b A kd wd w (fun v w' => v = 0 ∧ Rd w' b s p (sen x) q) hbl hA.size hA.k hA.w hA.k1 hA.k2 h4 (fun w1 f1 => ?_) (fun v w' w'' S hv hf hS => ⟨hv.1, hv.2.fr hf hS⟩)).mono ?_
    · refine (rfixed_f b s p q wd x w1 (h.fr f1 (fun f => f))).mono ?_
      rintro e w' ⟨rfl, rfl⟩; exact ⟨0, rfl, ⟨rfl, h.fr f1 (fun f => f)⟩, Fr.refl _ _⟩
    · rintro e w' ⟨v, rfl, ⟨rfl, h1⟩, h2⟩; exact ⟨⟨0, _, by omega, by omega, rfl⟩, h1, h2⟩
  · refine (took1 b A kd w (fun v w' => v = 0 ∧ Rd w' b s p (sen x) q) hbl hA.size hA.k hA.k1 hA.k2 h4 (fun w1 f1 => ?_) (fun v w' w'' S hv hf hS => ⟨hv.1, hv.2.fr hf hS⟩)).mono ?_
    · refine (rvar_f b s p q x w1 (h.fr f1 (fun f => f))).mono ?_
      rintro e w' ⟨rfl, rfl⟩; exact ⟨0, rfl, ⟨rfl, h.fr f1 (fun f => f)⟩, Fr.refl _ _⟩
    · rintro e w' ⟨v, rfl, ⟨rfl, h1⟩, h2⟩; exact ⟨⟨1, _, by omega, by omega, rfl⟩, h1, h2⟩
  · refine (took2 b A kd wd w (fun v w' => v = ⟨#[]⟩ ∧ Rd w' b s p (sen x) q) hbl hA.size hA.k hA.w hA.k1 hA.k2 h4 (fun w1 f1 => ?_) (fun v w' w'' S hv hf hS => ⟨hv.1, hv.2.fr hf hS⟩)).mono ?_
    · refine (rtext_f b s p q wd x w1 (h.fr f1 (fun f => f))).mono ?_
      rintro e w' ⟨rfl, rfl⟩; exact ⟨⟨#[]⟩, rfl, ⟨rfl, h.fr f1 (fun f => f)⟩, Fr.refl _ _⟩
    · rintro e w' ⟨v, rfl, ⟨rfl, h1⟩, h2⟩; exact ⟨⟨2, _, by omega, by omega, rfl⟩, h1, h2⟩
  · refine (took3 b A kd w (fun v w' => v = List.replicate 32 0 ∧ Rd w' b s p (sen x) q) hbl hA.size hA.k hA.k1 hA.k2 h4 (fun w1 f1 => ?_) (fun v w' w'' S hv hf hS => ⟨hv.1, hv.2.fr hf hS⟩)).mono ?_
    · refine (rhash_f b s p q x w1 (h.fr f1 (fun f => f))).mono ?_
      rintro e w' ⟨rfl, hf⟩; exact ⟨List.replicate 32 0, by simp, rfl, ⟨rfl, (h.fr f1 (fun f => f)).fr hf (fun f => f)⟩, hf.mono (fun _ _ f => f.elim)⟩
    · rintro e w' ⟨v, _, rfl, ⟨rfl, h1⟩, h2⟩; exact ⟨⟨3, 0, by omega, by omega, rfl⟩, h1, h2⟩

end Go.Proofs.YtebbgpnhkpbefaaDoor
