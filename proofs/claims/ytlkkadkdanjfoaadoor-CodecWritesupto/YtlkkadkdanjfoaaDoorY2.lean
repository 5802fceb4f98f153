/- put, of a thing of whatever number for its kind, with whatever frame. -/
import Derived.Test.YtlkkadkdanjfoaaDoorY1
import Derived.Test.YtlkkadkdanjfoaaDoorP1
namespace Go.Proofs.YtlkkadkdanjfoaaDoor
open Go.RowKit
set_option linter.unusedVariables false
set_option linter.unusedSimpArgs false
def Pts (f : Nat) (args : Array Value) (S : Nat → Prop) (w : World) (PF : Value → World → Prop) : Prop :=
  ∀ w1, Fr (fun _ => False) w w1 → Calls Tryd.prog f args w1 fun e w' => ∃ ev, e = .returned ev ∧ PF ev w' ∧ Fr S w1 w'

set_option maxRecDepth 100000 in
set_option maxHeartbeats 2000000 in
theorem puts0 (S : Nat → Prop) (b : Nat) (kd : Int) (V : Array Value) (n wd : Int) (w : World) (PF : Value → World → Prop) (hV : V.size = 37) (h1 : V[1]? = some (.int .i64 kd)) (hk1 : -9223372036854775808 ≤ kd) (hk2 : kd ≤ 9223372036854775807) (hk : kd % 4 = 0) (h2 : V[2]? = some (.int .u64 n)) (h3 : V[3]? = some (.int .i64 wd))
    (hF : Pts 33 #[.pointer (some ⟨b, 0, none⟩), .int .u64 n, .int .i64 wd] S w PF) :
    Calls Tryd.prog 13 #[.pointer (some ⟨b, 0, none⟩), .agg V] w fun e w' => ∃ ev, e = .returned ev ∧ PF ev w' ∧ Fr S w w' := by
  have fa : Fr (fun _ => False) w (w.alloc (.cells V 34)) := (Fr.refl _ _).alloc _
  have e1 := at_of h1
  have e2 := at_of h2
  have e3 := at_of h3
  clear h1 h2 h3
  have hr0 : ∀ W, Calls Tryd.prog 10 #[.int .i64 kd, .int .i64 4] W fun e w' => e = .returned (.int .i64 0) ∧ w' = W := fun W => by have := round_any kd W hk1 hk2; rwa [hk] at this
  go_enter Tryd.func13, Tryd.ntmps13
  go_wp2_with fail
  refine (hr0 _).mono ?_
  rintro e w1 ⟨rfl, rfl⟩
  go_wp2_with fail
  refine (hF _ fa).mono ?_
  rintro e w2 ⟨ev, rfl, hp, hf⟩
  go_wp2_with fail
  go_ret
  exact ⟨_, rfl, hp, (fa.mono (fun _ _ f => f.elim)).trans hf (fun _ _ q => q)⟩
set_option maxRecDepth 100000 in
set_option maxHeartbeats 2000000 in
theorem puts1 (S : Nat → Prop) (b : Nat) (kd : Int) (V : Array Value) (n : Int) (w : World) (PF : Value → World → Prop) (hV : V.size = 37) (h1 : V[1]? = some (.int .i64 kd)) (hk1 : -9223372036854775808 ≤ kd) (hk2 : kd ≤ 9223372036854775807) (hk : kd % 4 = 1) (h2 : V[2]? = some (.int .u64 n))
    (hF : Pts 34 #[.pointer (some ⟨b, 0, none⟩), .int .u64 n] S w (fun _ w' => PF .nilIface w')) :
    Calls Tryd.prog 13 #[.pointer (some ⟨b, 0, none⟩), .agg V] w fun e w' => ∃ ev, e = .returned ev ∧ PF ev w' ∧ Fr S w w' := by
  have fa : Fr (fun _ => False) w (w.alloc (.cells V 34)) := (Fr.refl _ _).alloc _
  have e1 := at_of h1
  have e2 := at_of h2
  clear h1 h2
  have hr1 : ∀ W, Calls Tryd.prog 10 #[.int .i64 kd, .int .i64 4] W fun e w' => e = .returned (.int .i64 1) ∧ w' = W := fun W => by have := round_any kd W hk1 hk2; rwa [hk] at this
  go_enter Tryd.func13, Tryd.ntmps13
  go_wp2_with fail
  refine (hr1 _).mono ?_
  rintro e w1 ⟨rfl, rfl⟩
  go_wp2_with fail
  refine (hF _ fa).mono ?_
  rintro e w2 ⟨ev, rfl, hp, hf⟩
  go_wp2_with fail
  go_ret
  exact ⟨_, rfl, hp, (fa.mono (fun _ _ f => f.elim)).trans hf (fun _ _ q => q)⟩
set_option maxRecDepth 100000 in
set_option maxHeartbeats 2000000 in
theorem puts2 (S : Nat → Prop) (b : Nat) (kd : Int) (V : Array Value) (t : ByteArray) (w : World) (PF : Value → World → Prop) (hV : V.size = 37) (h1 : V[1]? = some (.int .i64 kd)) (hk1 : -9223372036854775808 ≤ kd) (hk2 : kd ≤ 9223372036854775807) (hk : kd % 4 = 2) (h4 : V[4]? = some (.string t))
    (hF : Pts 35 #[.pointer (some ⟨b, 0, none⟩), .string t] S w (fun _ w' => PF .nilIface w')) :
    Calls Tryd.prog 13 #[.pointer (some ⟨b, 0, none⟩), .agg V] w fun e w' => ∃ ev, e = .returned ev ∧ PF ev w' ∧ Fr S w w' := by
  have fa : Fr (fun _ => False) w (w.alloc (.cells V 34)) := (Fr.refl _ _).alloc _
  have e1 := at_of h1
  have e4 := at_of h4
  clear h1 h4
  have hr2 : ∀ W, Calls Tryd.prog 10 #[.int .i64 kd, .int .i64 4] W fun e w' => e = .returned (.int .i64 2) ∧ w' = W := fun W => by have := round_any kd W hk1 hk2; rwa [hk] at this
  go_enter Tryd.func13, Tryd.ntmps13
  go_wp2_with fail
  refine (hr2 _).mono ?_
  rintro e w1 ⟨rfl, rfl⟩
  go_wp2_with fail
  refine (hF _ fa).mono ?_
  rintro e w2 ⟨ev, rfl, hp, hf⟩
  go_wp2_with fail
  go_ret
  exact ⟨_, rfl, hp, (fa.mono (fun _ _ f => f.elim)).trans hf (fun _ _ q => q)⟩
set_option maxRecDepth 100000 in
set_option maxHeartbeats 2000000 in
theorem puts3 (S : Nat → Prop) (b : Nat) (kd : Int) (V Hs : Array Value) (w : World) (PF : Value → World → Prop) (hV : V.size = 37) (h1 : V[1]? = some (.int .i64 kd)) (hk1 : -9223372036854775808 ≤ kd) (hk2 : kd ≤ 9223372036854775807) (hk : kd % 4 = 3) (hs : Hs.size = 32) (h5 : ∀ j, j < 32 → V[5 + j]? = Hs[j]?)
    (hF : Pts 36 #[.pointer (some ⟨b, 0, none⟩), .agg Hs] S w (fun _ w' => PF .nilIface w')) :
    Calls Tryd.prog 13 #[.pointer (some ⟨b, 0, none⟩), .agg V] w fun e w' => ∃ ev, e = .returned ev ∧ PF ev w' ∧ Fr S w w' := by
  have fa : Fr (fun _ => False) w (w.alloc (.cells V 34)) := (Fr.refl _ _).alloc _
  have ga : (w.alloc (.cells V 34)).heap[w.heap.size]? = some (.cells V 34 (0, 0)) := heap_alloc_new w _
  have e1 := at_of h1
  clear h1
  have hr3 : ∀ W, Calls Tryd.prog 10 #[.int .i64 kd, .int .i64 4] W fun e w' => e = .returned (.int .i64 3) ∧ w' = W := fun W => by have := round_any kd W hk1 hk2; rwa [hk] at this
  go_enter Tryd.func13, Tryd.ntmps13
  go_wp2_with fail
  refine (hr3 _).mono ?_
  rintro e w1 ⟨rfl, rfl⟩
  go_wp2_with (refine wp_load_agg rfl (.tmp 9) 32 32 rfl Tryd.isAgg32 Tryd.sizeOf32 w.heap.size 5 rfl V 34 (0, 0) ga Hs hs h5 ?_)
  refine (hF _ fa).mono ?_
  rintro e w2 ⟨ev, rfl, hp, hf⟩
  go_wp2_with fail
  go_ret
  exact ⟨_, rfl, hp, (fa.mono (fun _ _ f => f.elim)).trans hf (fun _ _ q => q)⟩

theorem pow_cast (N m : Nat) : ((N : Int) < 256 ^ (m : Int).toNat) ↔ N < 256 ^ m := by
  have e : (256 : Int) ^ m = ((256 ^ m : Nat) : Int) := by rw [Int.natCast_pow]; rfl
  rw [Int.toNat_natCast, e]
  exact Int.ofNat_lt
/-- A thing's form; none: it may not be put. -/
def fmT (kd n wd : Int) (t : ByteArray) (lh : List UInt8) : Option (List UInt8) :=
  if kd % 4 = 0 then (if 1 ≤ wd ∧ wd ≤ 8 ∧ n < 256 ^ wd.toNat then some (fixB wd.toNat n.toNat) else none)
  else if kd % 4 = 1 then some (varB n.toNat) else if kd % 4 = 2 then some (varB t.size ++ t.data.toList) else some lh
/-- put of a thing: its form is put, and nil told; or nothing, and an error. -/
theorem put_t {B b : Nat} {v : Value} {l : List UInt8} {w : World} {a : Nat → Addr} {A : Array Value} {kd n wd : Int} {t : ByteArray} {lh : List UInt8} (hS : Sent B w a) (hW : Wr w b v l) (hl : l.length ≤ 1000000000000) (hT : Tf A kd n wd t lh) (ht : t.size ≤ 70000000000000) :
    Calls Tryd.prog 13 #[.pointer (some ⟨b, 0, none⟩), .agg A] w fun e w' => ∃ ev, e = .returned ev ∧ (match fmT kd n wd t lh with | some F => ev = .nilIface ∧ ∃ v', Wr w' b v' (l ++ F) ∧ WN w v v' | none => (∃ tt u, ev = .iface tt u) ∧ Wr w' b v l) ∧ Fr (WP b v) w w' := by
  have hn1 := hT.n1
  have hn2 := hT.n2
  obtain ⟨N, rfl⟩ : ∃ N : Nat, n = N := ⟨n.toNat, by omega⟩
  have h4 : kd % 4 = 0 ∨ kd % 4 = 1 ∨ kd % 4 = 2 ∨ kd % 4 = 3 := by omega
  rcases h4 with h4 | h4 | h4 | h4
  · by_cases hv : 1 ≤ wd ∧ wd ≤ 8 ∧ (N : Int) < 256 ^ wd.toNat
    · have e : fmT kd N wd t lh = some (fixB wd.toNat N) := by unfold fmT; rw [if_pos h4, if_pos hv]; rfl
      rw [e]
      obtain ⟨h1, h8, hN⟩ := hv
      obtain ⟨m, rfl⟩ : ∃ m : Nat, wd = m := ⟨wd.toNat, by omega⟩
      have hN' : N < 256 ^ m := (pow_cast N m).1 hN
      refine puts0 (WP b v) b kd A N m w (fun ev w' => ev = .nilIface ∧ ∃ v', Wr w' b v' (l ++ fixB m N) ∧ WN w v v') hT.g.size hT.g.k hT.g.k1 hT.g.k2 h4 hT.cn hT.g.w (fun w1 f1 => ?_)
      refine (xfixed_yes b v l N m w1 (hW.fr f1 (fun f => f) (fun _ _ f => f)) (by omega) (by omega) (by omega) hN' hl).mono ?_
      rintro e w' ⟨rfl, v', h', hf, hn⟩
      exact ⟨_, rfl, ⟨rfl, v', h', hn.up f1.size⟩, hf⟩
    · have e : fmT kd N wd t lh = none := by unfold fmT; rw [if_pos h4, if_neg hv]
      rw [e]
      refine puts0 (WP b v) b kd A N wd w (fun ev w' => (∃ tt u, ev = .iface tt u) ∧ Wr w' b v l) hT.g.size hT.g.k hT.g.k1 hT.g.k2 h4 hT.cn hT.g.w (fun w1 f1 => ?_)
      have hW1 := hW.fr f1 (fun f => f) (fun _ _ f => f)
      have hc := (hS.fr f1 (fun _ _ f => f)).c1
      by_cases hw : wd < 1 ∨ 8 < wd
      · refine (wfixed_width b (a 1) N wd w1 ((cell_of hW1.blk 0).trans rfl) hw hc).mono ?_
        rintro e w' ⟨rfl, rfl⟩
        exact ⟨_, rfl, ⟨⟨_, _, rfl⟩, hW1⟩, Fr.refl _ _⟩
      · obtain ⟨m, rfl⟩ : ∃ m : Nat, wd = m := ⟨wd.toNat, by omega⟩
        have hN' : ¬ N < 256 ^ m := fun hN => hv ⟨by omega, by omega, (pow_cast N m).2 hN⟩
        refine (wfixed_big b (a 1) N m w1 ((cell_of hW1.blk 0).trans rfl) (by omega) (by omega) (by omega) hN' hc).mono ?_
        rintro e w' ⟨rfl, rfl⟩
        exact ⟨_, rfl, ⟨⟨_, _, rfl⟩, hW1⟩, Fr.refl _ _⟩
  · have e : fmT kd N wd t lh = some (varB N) := by unfold fmT; rw [if_neg (by omega), if_pos h4]; rfl
    rw [e]
    refine puts1 (WP b v) b kd A N w (fun ev w' => ev = .nilIface ∧ ∃ v', Wr w' b v' (l ++ varB N) ∧ WN w v v') hT.g.size hT.g.k hT.g.k1 hT.g.k2 h4 hT.cn (fun w1 f1 => ?_)
    refine (xvar b v l N w1 (hW.fr f1 (fun f => f) (fun _ _ f => f)) (by omega) hl).mono ?_
    rintro e w' ⟨rfl, v', h', hf, hn⟩
    exact ⟨_, rfl, ⟨rfl, v', h', hn.up f1.size⟩, hf⟩
  · have e : fmT kd N wd t lh = some (varB t.size ++ t.data.toList) := by unfold fmT; rw [if_neg (by omega), if_neg (by omega), if_pos h4]
    rw [e]
    refine puts2 (WP b v) b kd A t w (fun ev w' => ev = .nilIface ∧ ∃ v', Wr w' b v' (l ++ (varB t.size ++ t.data.toList)) ∧ WN w v v') hT.g.size hT.g.k hT.g.k1 hT.g.k2 h4 hT.ct (fun w1 f1 => ?_)
    refine (xtext b v l t w1 (hW.fr f1 (fun f => f) (fun _ _ f => f)) ht hl).mono ?_
    rintro e w' ⟨rfl, v', h', hf, hn⟩
    exact ⟨_, rfl, ⟨rfl, v', h', hn.up f1.size⟩, hf⟩
  · have e : fmT kd N wd t lh = some lh := by unfold fmT; rw [if_neg (by omega), if_neg (by omega), if_neg (by omega)]
    rw [e]
    refine puts3 (WP b v) b kd A (bc lh).toArray w (fun ev w' => ev = .nilIface ∧ ∃ v', Wr w' b v' (l ++ lh) ∧ WN w v v') hT.g.size hT.g.k hT.g.k1 hT.g.k2 h4 (by simp [bc_len, hT.hl]) (fun j hj => by rw [hT.ch j hj]; simp) (fun w1 f1 => ?_)
    refine (xhash b v l lh w1 (hW.fr f1 (fun f => f) (fun _ _ f => f)) hT.hl hl).mono ?_
    rintro e w' ⟨rfl, v', h', hf, hn⟩
    exact ⟨_, rfl, ⟨rfl, v', h', hn.up f1.size⟩, hf⟩
end Go.Proofs.YtlkkadkdanjfoaaDoor
