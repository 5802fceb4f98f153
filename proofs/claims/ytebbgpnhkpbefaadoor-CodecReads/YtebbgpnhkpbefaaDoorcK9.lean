/- Two things that are the same are found so; Left and End of both readers. -/
import Derived.Test.YtebbgpnhkpbefaaDoorcK7
import Derived.Test.YtebbgpnhkpbefaaDoorcK8
import Derived.Test.YtebbgpnhkpbefaaDoorcB1
namespace Go.Proofs.YtebbgpnhkpbefaaDoor
open Go.RowKit
set_option linter.unusedVariables false
set_option linter.unusedSimpArgs false
theorem hash_eq' (l : List UInt8) (hl : l.length = 32) (w : World) : (Op.equalIn 9999 38 (.agg (bc l).toArray) (.agg (bc l).toArray)).run Tryd.prog w = .ok true w := by
  obtain ⟨i0, hi, _⟩ := info_parts8
  have key : ∀ (is : List Nat), (∀ i ∈ is, i < l.length) → (Op.eqItems 9998 5 1 (bc l).toArray (bc l).toArray is).run Tryd.prog w = .ok true w := by
    intro is
    induction is with
    | nil => intro _; simp [Op.eqItems]
    | cons i is ih =>
      intro h
      have hi := h i (by simp)
      have hg : (bc l).toArray[i * 1]? = some (.int .u8 (l[i].toNat : Int)) := by simp [bc, hi]
      have hp := run_part_plain w plain8 hg
      have ih' := ih (fun j hj => h j (by simp [hj]))
      have he : (Op.equalIn 9998 5 (.int .u8 (l[i].toNat : Int)) (.int .u8 (l[i].toNat : Int))).run Tryd.prog w = .ok true w := by
        rw [run_equalIn_int w 9997 5 .u8 .u8 _ _ Tryd.underlying5]; simp
      simp only [Op.eqItems, Sem.run_bind, hp, he, Result.andThen_ok, Bool.not_true, Bool.false_eq_true, if_false, ih']
  rw [run_equalIn_array w 9998 _ _ Tryd.underlying38 hi, cells5]
  exact key _ (fun i hi => by rw [hl]; exact List.mem_range.1 hi)
theorem fields34 : (Tryd.prog.fieldsOf 40).toList.map (fun f => (f.type, f.offset)) = [(3, 0), (3, 1), (36, 2), (3, 3), (9, 4), (38, 5)] := by kernel_rfl
theorem eqFields_self {P : Program} (w : World) (d : Nat) (xs : Array Value) : ∀ (fs : List Field), (∀ f ∈ fs, ∃ v, (part f.type xs f.offset).run P w = .ok v w ∧ (Op.equalIn d f.type v v).run P w = .ok true w) → (Op.eqFields d xs xs fs).run P w = .ok true w
  | [], _ => by simp [Op.eqFields]
  | f :: fs, h => by
    obtain ⟨v, h1, h2⟩ := h f (by simp)
    have ih := eqFields_self w d xs fs (fun g hg => h g (by simp [hg]))
    by_cases hn : f.name = "_"
    · simp [Op.eqFields, hn, ih]
    · simp [Op.eqFields, hn, h1, h2, ih]
theorem stood34 : Tryd.prog.stoodInHeld 40 = false := by kernel_rfl
theorem und34 : Tryd.prog.underlying 40 = some (.struct (Tryd.prog.fieldsOf 40)) := by kernel_rfl
theorem plainI : Tryd.prog.plainKey 3 = true := by kernel_rfl
theorem plainU : Tryd.prog.plainKey 36 = true := by kernel_rfl
theorem plainS : Tryd.prog.plainKey 9 = true := by kernel_rfl
theorem part_hash (x k n wd : Int) (t : ByteArray) (lh : List UInt8) (hl : lh.length = 32) (w : World) : (part 38 (([.int .i64 x, .int .i64 k, .int .u64 n, .int .i64 wd, .string t] : List Value) ++ bc lh).toArray 5).run Tryd.prog w = .ok (.agg (bc lh).toArray) w := by
  have e : (([.int .i64 x, .int .i64 k, .int .u64 n, .int .i64 wd, .string t] : List Value) ++ bc lh).toArray.extract 5 (5 + 32) = (bc lh).toArray := by
    apply Array.ext'
    rw [Array.toList_extract]
    simp [List.extract, bc_len, hl]
    rw [List.take_of_length_le (by rw [bc_len]; omega)]
  unfold part
  simp only [Sem.run_bind, Tryd.isAgg38, Tryd.sizeOf38, Result.andThen_ok, if_true, Sem.run_pure, e]
theorem thing_eq {V : Array Value} (hV : Tz V) (w : World) : (Op.equalIn 10000 40 (.agg V) (.agg V)).run Tryd.prog w = .ok true w := by
  obtain ⟨x, k, n, wd, t, lh, hl, rfl⟩ := hV
  rw [run_equalIn_struct w 9999 40 _ _ und34 stood34]
  refine eqFields_self w 9999 _ _ (fun f hf => ?_)
  have hm : (f.type, f.offset) ∈ [(3, 0), (3, 1), (36, 2), (3, 3), (9, 4), (38, 5)] := by
    rw [← fields34]; exact List.mem_map.2 ⟨f, hf, rfl⟩
  generalize hty : f.type = ty at hm ⊢
  generalize hof : f.offset = of at hm ⊢
  simp only [List.mem_cons, Prod.mk.injEq, List.not_mem_nil, or_false] at hm
  rcases hm with ⟨rfl, rfl⟩ | ⟨rfl, rfl⟩ | ⟨rfl, rfl⟩ | ⟨rfl, rfl⟩ | ⟨rfl, rfl⟩ | ⟨rfl, rfl⟩
  · exact ⟨.int .i64 x, run_part_plain w plainI rfl, by rw [run_equalIn_int w 9998 _ .i64 .i64 _ _ Tryd.underlying3]; simp⟩
  · exact ⟨.int .i64 k, run_part_plain w plainI rfl, by rw [run_equalIn_int w 9998 _ .i64 .i64 _ _ Tryd.underlying3]; simp⟩
  · exact ⟨.int .u64 n, run_part_plain w plainU rfl, by rw [run_equalIn_int w 9998 _ .u64 .u64 _ _ Tryd.underlying36]; simp⟩
  · exact ⟨.int .i64 wd, run_part_plain w plainI rfl, by rw [run_equalIn_int w 9998 _ .i64 .i64 _ _ Tryd.underlying3]; simp⟩
  · exact ⟨.string t, run_part_plain w plainS rfl, by rw [run_equalIn_string w 9998 _ _ _ Tryd.underlying9]; simp⟩
  · exact ⟨_, part_hash x k n wd t lh hl w, hash_eq' lh hl w⟩

/-- Left of both. -/
theorem left_both {b c : Nat} {s : ByteArray} {w : World} {a : Nat → Addr} (h : Rel w b c s a) (hs : s.size ≤ maxLen) : ∃ l : Int,
    (∀ W, Fr (fun _ => False) w W → Calls Tryd.prog 12 #[.pointer (some ⟨b, 0, none⟩)] W fun e w' => e = .returned (.int .i64 l) ∧ Fr (fun _ => False) W w') ∧
    (∀ W, Fr (fun _ => False) w W → Calls Tryd.prog 10 #[.pointer (some ⟨c, 0, none⟩)] W fun e w' => e = .returned (.int .i64 l) ∧ Fr (fun _ => False) W w') := by
  rcases h with ⟨p, q, hp, hR, hRf⟩ | ⟨i, p, q, p', hi1, hi3, hqp, hR, hRf⟩
  · exact ⟨_, fun W fW => (left_yes b s p q W (hR.fr fW (fun f => f)) hp hs).mono (fun e w' h => ⟨h.1, h.2.2⟩), fun W fW => fleft_yes c s p 0 W (hRf.fr fW (fun f => f)) hp hs⟩
  · refine ⟨0, fun W fW => (left_no b s p q (a i) W (hR.fr fW (fun f => f))).mono ?_, fun W fW => (fleft_no c s p' _ _ W (hRf.fr fW (fun f => f)) (by omega)).mono ?_⟩
    · rintro e w' ⟨rfl, rfl⟩; exact ⟨rfl, Fr.refl _ _⟩
    · rintro e w' ⟨rfl, rfl⟩; exact ⟨rfl, Fr.refl _ _⟩
/-- End of both: the same error. -/
theorem end_both {B b c : Nat} {s : ByteArray} {w : World} {a : Nat → Addr} (hS : Sent B w a) (h : Rel w b c s a) (hs : s.size ≤ maxLen) : ∃ (x y : Int),
    (∀ W, Fr (fun _ => False) w W → Calls Tryd.prog 14 #[.pointer (some ⟨b, 0, none⟩)] W fun e w' => (∃ ev, e = .returned ev ∧ ∃ code pl, EV w' a ev code pl ∧ sameB code pl x y = true) ∧ Fr (fun _ => False) W w') ∧
    (∀ W, Fr (fun _ => False) w W → Calls Tryd.prog 11 #[.pointer (some ⟨c, 0, none⟩)] W fun e w' => e = .returned (.agg #[.int .i64 x, .int .i64 y]) ∧ Fr (fun _ => False) W w') := by
  rcases h with ⟨p, q, hp, hR, hRf⟩ | ⟨i, p, q, p', hi1, hi3, hqp, hR, hRf⟩
  · by_cases hpe : p = s.size
    · refine ⟨0, 0, fun W fW => (end_ok b s p q (a 2) W (hR.fr fW (fun f => f)) hpe hs (hS.fr fW (fun _ _ f => f)).c2).mono ?_, fun W fW => fend_ok c s p 0 W (hRf.fr fW (fun f => f)) hpe hs⟩
      rintro e w' ⟨rfl, hf⟩
      exact ⟨⟨_, rfl, 0, none, .inl ⟨rfl, rfl, rfl⟩, rfl⟩, hf⟩
    · refine ⟨3, p, fun W fW => (end_left b s p q (a 2) W (hR.fr fW (fun f => f)) (by omega) hs (hS.fr fW (fun _ _ f => f)).c2).mono ?_, fun W fW => fend_left c s p 0 W (hRf.fr fW (fun f => f)) (by omega) hs⟩
      rintro e w' ⟨rfl, hF, hf, _⟩
      exact ⟨⟨_, rfl, 3, some p, .inr (.inr ⟨2, _, p, by omega, rfl, hF, rfl, rfl⟩), by unfold sameB; rw [if_neg (by omega)]; simp⟩, hf⟩
  · refine ⟨(i : Int) + 1, plD i q, fun W fW => (end_f (hS.fr fW (fun _ _ f => f)) i hi1 hi3 (hR.fr fW (fun f => f))).mono ?_, fun W fW => fend_bad c s p' _ _ W (hRf.fr fW (fun f => f)) (by omega)⟩
    rintro e w' ⟨⟨t, u, rfl, hev⟩, hf⟩
    refine ⟨⟨_, rfl, i + 1, plF i q, hev, ?_⟩, hf⟩
    by_cases h2 : i = 2
    · subst h2
      have := hqp rfl
      unfold sameB plF plD
      rw [if_pos rfl, if_pos rfl, if_neg (by omega)]
      simp
    · unfold sameB plF plD
      rw [if_neg h2, if_neg h2, if_pos rfl]
      simp
end Go.Proofs.YtebbgpnhkpbefaaDoor
