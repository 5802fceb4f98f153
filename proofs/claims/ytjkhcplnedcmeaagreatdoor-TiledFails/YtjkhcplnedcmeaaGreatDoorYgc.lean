/- plan: tiles that were met, in a map in memory. -/
import Derived.Test.YtjkhcplnedcmeaaGreatDoorUg2
import Derived.Maps.OwnSet
import Derived.Maps.RangeWalk
import Derived.DeepKeys4
import Derived.Test.YtjkhcplnedcmeaaGreatDoorSh2
import Derived.Test.YtjkhcplnedcmeaaGreatDoorSg
namespace Go.Proofs.YtjkhcplnedcmeaaGreatDoor.TM
open Go.RowKit Go.Maps Go.WideMaps Go.Proofs.YtjkhcplnedcmeaaGreatDoor
set_option linter.unusedVariables false
set_option linter.unusedSimpArgs false
/-- A key: a tile as three numbers. -/
abbrev KT := {k : Nat × Nat × Int // k.1 ≤ 255 ∧ k.2.1 < 18446744073709551616 ∧ -9223372036854775808 ≤ k.2.2 ∧ k.2.2 ≤ 9223372036854775807}
abbrev k1 (k : KT) : Value := .int .u8 (k.1.1 : Int)
abbrev k2 (k : KT) : Value := .int .u64 (k.1.2.1 : Int)
abbrev k3 (k : KT) : Value := .int .i64 k.1.2.2
abbrev kv (k : KT) : Value := .agg #[k1 k, k2 k, k3 k]
def kl (k : KT) : Lit := .string (keyBytes [.int .u8 (k.1.1 : Int), .int .u64 (k.1.2.1 : Int), .int .i64 k.1.2.2])
abbrev kok (k : KT) : Prop := True
def kz : KT := ⟨(0, 0, 0), by decide⟩
theorem mapM_fields {α β : Type} (n : List β) (a : β → String) (t : β → TypeId) (o : β → Nat) (F : TypeId → Nat → Option α) : n.mapM (fun f => F (t f) (o f)) = (n.map fun f => (a f, t f, o f)).mapM (fun x => F x.2.1 x.2.2) := by
  induction n with
  | nil => rfl
  | cons x r ih => simp only [List.mapM_cons, List.map_cons, ih]
theorem kty : Tryz.prog.types.size + 1 = Tryz.prog.types.size - 1 + 1 + 1 := by kernel_rfl
theorem kcl : Tryz.prog.cellsOf 120 = 3 ∧ Tryz.prog.cellsOf 5 = 1 ∧ Tryz.prog.cellsOf 41 = 1 ∧ Tryz.prog.cellsOf 3 = 1 := ⟨by kernel_rfl, by kernel_rfl, by kernel_rfl, by kernel_rfl⟩
set_option maxRecDepth 100000 in
theorem key_of {k : KT} (h : kok k) : keyOf Tryz.prog 120 (kv k) = some (kl k) := by
  obtain ⟨⟨L, I, W⟩, h1, h2, h3, h4⟩ := k
  simp only at h1 h2 h3 h4
  have w1 : (Lit.int .u8 (L : Int)).wf = true := by simp [Lit.wf, IntKind.min, IntKind.max, IntKind.signed, IntKind.bits]; omega
  have w2 : (Lit.int .u64 (I : Int)).wf = true := by simp [Lit.wf, IntKind.min, IntKind.max, IntKind.signed, IntKind.bits]; omega
  have w3 : (Lit.int .i64 W).wf = true := by simp [Lit.wf, IntKind.min, IntKind.max, IntKind.signed, IntKind.bits]; omega
  obtain ⟨c3, c1, c2, c4⟩ := kcl
  have l1 : Tryz.prog.keyLits (Tryz.prog.types.size - 1 + 1) 5 [.int .u8 (L : Int)] = some [.int .u8 (L : Int)] := by simp only [Program.keyLits, Tryz.underlying5]; rw [if_pos ⟨trivial, w1⟩]
  have l2 : Tryz.prog.keyLits (Tryz.prog.types.size - 1 + 1) 41 [.int .u64 (I : Int)] = some [.int .u64 (I : Int)] := by simp only [Program.keyLits, Tryz.underlying41]; rw [if_pos ⟨trivial, w2⟩]
  have l3 : Tryz.prog.keyLits (Tryz.prog.types.size - 1 + 1) 3 [.int .i64 W] = some [.int .i64 W] := by simp only [Program.keyLits, Tryz.underlying3]; rw [if_pos ⟨trivial, w3⟩]
  obtain ⟨fs, hu, hfs⟩ : ∃ fs, Tryz.prog.underlying 120 = some (.struct fs) ∧ fs.toList.map (fun f => (f.name, f.type, f.offset)) = [("Level", 5, 0), ("Index", 41, 1), ("Width", 3, 2)] := ⟨_, Tryz.underlying120, by kernel_rfl⟩
  have hall : fs.all (·.name != "_") = true := by
    rw [← Array.all_toList]
    have : (fs.toList.map (fun f => (f.name, f.type, f.offset))).all (fun x => x.1 != "_") = true := by rw [hfs]; decide
    simpa [List.all_map] using this
  have hm : (fs.toList.mapM fun f => Tryz.prog.keyLits (Tryz.prog.types.size - 1 + 1) f.type (([Value.int .u8 (L : Int), .int .u64 (I : Int), .int .i64 W].drop f.offset).take (Tryz.prog.cellsOf f.type))) = some [[.int .u8 (L : Int)], [.int .u64 (I : Int)], [.int .i64 W]] := by
    rw [mapM_fields fs.toList (·.name) (·.type) (·.offset) (fun t o => Tryz.prog.keyLits (Tryz.prog.types.size - 1 + 1) t (([Value.int .u8 (L : Int), .int .u64 (I : Int), .int .i64 W].drop o).take (Tryz.prog.cellsOf t))), hfs]
    simp only [List.mapM_cons, List.mapM_nil, List.drop_zero, List.drop_succ_cons, c1, c2, c4, List.take_succ_cons, List.take_zero]
    rw [l1, l2, l3]
    rfl
  have hL : Tryz.prog.keyLits (Tryz.prog.types.size + 1) 120 [.int .u8 (L : Int), .int .u64 (I : Int), .int .i64 W] = some [.int .u8 (L : Int), .int .u64 (I : Int), .int .i64 W] := by
    rw [kty, Program.keyLits.eq_def]
    dsimp only
    rw [hu]
    dsimp only
    rw [c3, if_pos ⟨rfl, hall⟩, hm]
    rfl
  have hkt : Tryz.prog.keyType 120 = true := by kernel_rfl
  have hfm : Value.formed Tryz.prog 120 (.agg #[.int .u8 (L : Int), .int .u64 (I : Int), .int .i64 W]) = true := by
    unfold Value.formed
    rw [hu]
    dsimp only
    rw [c3]
    rfl
  unfold keyOf kl
  rw [hu]
  dsimp only
  rw [hkt]
  rw [Bool.true_and]
  refine (if_pos hfm).trans ?_
  show (Tryz.prog.keyLits (Tryz.prog.types.size + 1) 120 [.int .u8 (L : Int), .int .u64 (I : Int), .int .i64 W]).map _ = _
  rw [hL]
  rfl
theorem lawK : Keyed Tryz.prog 120 := Keyed.of_law (deep_law_laid (by kernel_rfl) (m := 2) (by omega) (of_decide_eq_true (by kernel_rfl)) (by kernel_rfl) (by kernel_rfl))
theorem kl_inj {a b : KT} (h : kl a = kl b) : a = b := by
  have e := lawK.inj (key_of (k := a) trivial) (by rw [h]; exact key_of (k := b) trivial)
  simp only [kv, Value.agg.injEq, k1, k2, k3] at e
  simp at e
  obtain ⟨e1, e2, e3⟩ := e
  exact Subtype.ext (Prod.ext (by omega) (Prod.ext (by omega) e3))
theorem kl_key (k : KT) : WideAt.IsKeyLit (kl k) := lawK.key (key_of (k := k) trivial)
/-- Which tiles were met. -/
abbrev Pm := KT → Bool
open Classical in
noncomputable def putP (M : Pm) (k : KT) : Pm := fun x => if x = k then true else M x
theorem putP_same (M : Pm) (k : KT) : putP M k k = true := by simp [putP]
theorem putP_other (M : Pm) {k x : KT} (h : x ≠ k) : putP M k x = M x := by simp [putP, h]
/-- How nothing reads. -/
def unR (v : Value) : Option (DataW Unit × List MemPlace) :=
  match v with
  | .agg ⟨[]⟩ => some (.lit (.bool true), [])
  | _ => none
theorem unR_mk : unR (.agg #[]) = some (.lit (.bool true), []) := rfl
theorem unR_inv {v : Value} {z : DataW Unit × List MemPlace} (h : unR v = some z) : v = .agg #[] ∧ z = (.lit (.bool true), []) := by
  unfold unR at h
  split at h
  · cases h
    exact ⟨rfl, rfl⟩
  · cases h
def elP (o : Bool) (zd : DataW Unit) : DataW Unit := match o with | true => .lit (.bool true) | false => zd
/-- Block b is a map of n things at most, that has the keys M. -/
def Mp (w : World) (b n : Nat) (M : Pm) : Prop :=
  ∃ D : DataW Unit, w.ownsMap Tryz.prog 120 unR b n D ∧ ∀ (k : KT) zd, D.atKey (kl k) zd = elP (M k) zd
theorem Mp.lt {w : World} {b n : Nat} {M : Pm} (h : Mp w b n M) : b < w.heap.size := let ⟨_, h1, _⟩ := h; h1.lt
theorem Mp.fr {S : Nat → Prop} {w w' : World} {b n : Nat} {M : Pm} (h : Mp w b n M) (f : Fr S w w') (hS : ¬ S b) : Mp w' b n M := by
  obtain ⟨D, ⟨es, clock, hb, r⟩, h2⟩ := h
  exact ⟨D, ⟨es, clock, (f.block b (heap_lt hb) hS).trans hb, r⟩, h2⟩
theorem Mp.made (w : World) : Mp (w.alloc (.map #[] 0)) w.heap.size 0 (fun _ => false) :=
  ⟨.map [], World.ownsMap_made w _ _ _, fun k zd => rfl⟩
theorem has_elP {D : DataW Unit} {k : Lit} {o : Bool} (h : ∀ zd, D.atKey k zd = elP o zd) : Maps.has D k = o := by
  cases o with
  | false => exact Maps.has_false_of_atKey h
  | true => exact Maps.has_true_of_atKey (y := .lit (.bool true)) h
theorem Mp.look {w : World} {b n : Nat} {M : Pm} (h : Mp w b n M) (k : KT) (hk : kok k) :
    (Instr.lookup 270 (.map (some b)) (kv k) true).run Tryz.prog w = .ok (.tuple #[.agg #[], .bool (M k)]) w := by
  obtain ⟨D, h1, h2⟩ := h
  obtain ⟨v, ps, hr, hv⟩ := h1.look_ok lawK Tryz.underlying270 (Tryz.zeroValue276 w) (zd := .lit (.bool true)) (zp := []) unR_mk (key_of hk)
  obtain ⟨rfl, _⟩ := unR_inv hv
  rw [has_elP (h2 k)] at hr
  exact hr
theorem Mp.put {w : World} {b n : Nat} {M : Pm} (h : Mp w b n M) (k : KT) (hk : kok k) (hn : n < 4611686018427387904) :
    ∃ w', (Instr.mapUpdate 270 (.map (some b)) (kv k) (.agg #[])).run Tryz.prog w = .ok () w' ∧ Mp w' b (n + 1) (putP M k) ∧ Fr (fun j => j = b) w w' := by
  obtain ⟨D, h1, h2⟩ := h
  obtain ⟨w', hr, ho, hg⟩ := h1.update lawK Tryz.underlying270 (by unfold maxLen; omega) (key_of hk) unR_mk
  refine ⟨w', hr, ⟨_, ho, fun x zd => ?_⟩, ⟨hg.os, hg.tape, hg.output, hg.size, fun j hj hne => hg.block j hj (by simpa using hne)⟩⟩
  by_cases hx : x = k
  · subst hx
    rw [Maps.atKey_put_same h1.isMap (kl_key _), putP_same]
    rfl
  · rw [Maps.atKey_put_other (fun e => hx (kl_inj (by simpa using e))), putP_other _ hx]
    exact h2 x zd
end Go.Proofs.YtjkhcplnedcmeaaGreatDoor.TM
namespace Go.Proofs.YtjkhcplnedcmeaaGreatDoor
open Go.RowKit
set_option linter.unusedVariables false
set_option linter.unusedSimpArgs false
/-- A tree that a log of S leaves has. -/
def gdT (S : Nat) (c : Nat × Nat) : Prop := may c.1 c.2 ∧ (c.2 + 1) * 2 ^ c.1 ≤ S
instance (S : Nat) (c : Nat × Nat) : Decidable (gdT S c) := by unfold gdT may; infer_instance
theorem gd_room {S L I : Nat} (h : gdT S (L, I)) (hS : S ≤ 9223372036854775808) : ofA L I + 2 ^ (L % 8) ≤ nod8 (L / 8) S := by
  have h2 : (I + 1) * 2 ^ L ≤ S := h.2
  unfold nod8 ofA
  rw [Nat.le_div_iff_mul_le (Nat.two_pow_pos _)]
  have e : 2 ^ L = 2 ^ (L % 8) * 2 ^ (8 * (L / 8)) := by rw [← Nat.pow_add]; congr 1; omega
  rw [e, ← Nat.mul_assoc, Nat.add_mul, Nat.one_mul] at h2
  exact h2
theorem gd_place {L I : Nat} : ofA L I % 256 + 2 ^ (L % 8) ≤ 256 := by
  have hp := pow8 (L % 8) (by omega)
  have e : (256 : Nat) = 2 ^ (8 - L % 8) * 2 ^ (L % 8) := by rw [← Nat.pow_add, show 8 - L % 8 + L % 8 = 8 by omega]
  unfold ofA
  rw [e, Nat.mul_mod_mul_right]
  have h1 := Nat.mod_lt I (Nat.two_pow_pos (8 - L % 8))
  calc I % 2 ^ (8 - L % 8) * 2 ^ (L % 8) + 2 ^ (L % 8) = (I % 2 ^ (8 - L % 8) + 1) * 2 ^ (L % 8) := by rw [Nat.add_mul, Nat.one_mul]
    _ ≤ 2 ^ (8 - L % 8) * 2 ^ (L % 8) := Nat.mul_le_mul_right _ h1
theorem gd_wid {S L I : Nat} (h : gdT S (L, I)) (hS : S ≤ 9223372036854775808) : ofA L I % 256 + 2 ^ (L % 8) ≤ wid (L / 8) (ofA L I / 256) S := by
  have h1 := gd_room h hS
  have h2 := gd_place (L := L) (I := I)
  have h3 : L ≤ 63 := h.1.1
  unfold wid
  rw [if_neg (by omega)]
  omega
theorem wid_le (l i S : Nat) : wid l i S ≤ 256 := by unfold wid; split <;> omega
set_option maxHeartbeats 2000000 in
theorem ptile_yes (S L I : Nat) (h : gdT S (L, I)) (hS : S ≤ 9223372036854775808) (w : World) :
    Calls Tryz.prog 165 #[cd L I, .int .u64 (S : Int)] w fun e w' => e = .returned (.tuple #[tl (L / 8) (ofA L I / 256) (wid (L / 8) (ofA L I / 256) S), .nilIface]) ∧ Nw w w' := by
  have H : Hid (may L I) := h.1
  have hL := h.1.1
  have hb := ofA_bd h.1
  have hw := gd_wid h hS
  have hp := Nat.two_pow_pos (L % 8)
  obtain ⟨A, hA⟩ : ∃ A, A = ofA L I := ⟨_, rfl⟩
  obtain ⟨W, hW⟩ : ∃ W, W = wid (L / 8) (A / 256) S := ⟨_, rfl⟩
  obtain ⟨P, hP⟩ : ∃ P, P = 2 ^ (L % 8) := ⟨_, rfl⟩
  obtain ⟨Y, hY⟩ : ∃ Y, Y = (I + 1) * 2 ^ L := ⟨_, rfl⟩
  obtain ⟨V, hV⟩ : ∃ V, V = ofW L := ⟨_, rfl⟩
  have QS : Hid (∀ V, Calls Tryz.prog 185 #[cd L I] V fun e w' => e = .returned (.tuple #[sp (I * 2 ^ L) Y, .bool true]) ∧ Nw V w') := fun V => by rw [hY]; exact span_yes L I h.1 V
  have QT : Hid (∀ U, Calls Tryz.prog 186 #[cd L I] U fun e w' => e = .returned (.tuple #[tl (L / 8) (A / 256) V, .int .i64 ((A % 256 : Nat) : Int), .int .i64 (P : Int), .bool true]) ∧ Nw U w') := fun U => by rw [hA, hP, hV]; exact tof_yes L I h.1 U
  have hYS : Y ≤ S := by rw [hY]; exact h.2
  rw [← hA] at hb hw ⊢
  rw [← hW] at hw ⊢
  rw [← hP] at hp hw
  obtain ⟨X, hX⟩ : ∃ X, X = I * 2 ^ L := ⟨_, rfl⟩
  rw [← hX] at QS
  obtain ⟨l, hl⟩ : ∃ l, l = L / 8 := ⟨_, rfl⟩
  obtain ⟨i, hi⟩ : ∃ i, i = A / 256 := ⟨_, rfl⟩
  rw [← hl, ← hi] at QT hW ⊢
  have hi64 : i < 18446744073709551616 := by omega
  have QI : Hid (∀ V, Calls Tryz.prog 96 #[.int .u8 (l : Int), .int .u64 (i : Int), .int .u64 (S : Int)] V fun e w' => e = .returned (.tuple #[tl l i W, .bool true]) ∧ Nw V w') := fun V => in_yes l i S W hi64 hW.symm (by omega) V
  have hle : ¬ (S : Int) < (Y : Int) := by omega
  have hd1 : decide ((S : Int) < (Y : Int)) = false := by simp; omega
  have hd2 : decide (S < Y) = false := by simp; omega
  clear hA hP hV hY hX hW h hb hw hp hYS hl hi
  go_enter Tryz.func165, Tryz.ntmps165
  go_wp2_with fail
  refine (QS.out _).mono ?_
  rintro e w1 ⟨rfl, n1⟩
  obtain ⟨⟨l0, l1⟩, b0, b1, n2⟩ := two_made n1
  have c0 := cell2a b0
  have c1 := cell2b b0
  clear n1
  go_wp2_with fail
  refine (QT.out _).mono ?_
  rintro e w2 ⟨rfl, n3⟩
  have N12 : Nw w1 w2 := Nw.tr (nwa w1 _) n3
  have B1 : w2.heap[w.heap.size + 1]? = some (.cells #[.int .u8 0, .int .u64 0, .int .i64 0] 120) := (N12.block _ (heap_lt b1) (fun f => f)).trans b1
  have N2 : Hid (Nw w w2) := n2.tr N12
  have l2 : w.heap.size + 1 < w2.heap.size := heap_lt B1
  clear n3 n2 b0 b1 c0 c1 l0 l1 N12
  go_wp2_with fail
  refine (QI.out _).mono ?_
  rintro e w3 ⟨rfl, n4⟩
  obtain ⟨l3, b3, n5⟩ := one_made n4
  have B3 : Hid (w3.heap[w.heap.size + 1]? = some (.cells #[.int .u8 0, .int .u64 0, .int .i64 0] 120)) := (n5.block _ (heap_lt B1) (fun f => f)).trans B1
  obtain ⟨d0, d1, d2⟩ := cell3 b3
  have z0 := frozen_of b3 0
  have z1 := frozen_of b3 1
  have z2 := frozen_of b3 2
  obtain ⟨f0, f1, f2⟩ := cell3 B3.out
  have y0 := frozen_of B3.out 0
  have y1 := frozen_of B3.out 1
  have y2 := frozen_of B3.out 2
  have N3 : Hid (Nw w w3) := N2.out.tr n5
  have l4 := heap_lt B3.out
  clear n4 n5 B1
  go_wp2
  refine bodyPost_ret (results_cell_slot (V := #[.int .u8 (l : Int), .int .u64 (i : Int), .int .i64 (W : Int)]) (ty := 120) (f := (0, 0)) Tryz.results165 Tryz.isAgg120 Tryz.sizeOf120 rfl _ rfl ?_ rfl) rfl ⟨rfl, (by repeat first | with_reducible exact N3.out | with_reducible refine Fr.alloc ?_ _ | with_reducible refine Fr.drew ?_ | (with_reducible refine Fr.setCell ?_ _ _ (fun h => ?_); rotate_left; focus (simp only at h; omega)))⟩
  (repeat first | with_reducible exact B3.out | with_reducible exact heap_new _ _ | with_reducible exact heap_next _ _ _ | with_reducible exact heap_third _ _ _ _ | with_reducible refine hp_dr ?_ | (with_reducible refine hp_ne ?_ ?_; focus omega) | (with_reducible refine hp_al ?_ ?_; focus (first | omega | (simp <;> omega))) | with_reducible apply hp_set) <;> rfl
set_option maxHeartbeats 2000000 in
theorem ptile_no (S L I : Nat) (h : ¬ gdT S (L, I)) (hL : L ≤ 255) (hI : I < 18446744073709551616) (hS : S ≤ 9223372036854775808) (w : World) {B : Nat} {a : Nat → Addr} (hSe : Sent B w a) :
    Calls Tryz.prog 165 #[cd L I, .int .u64 (S : Int)] w fun e w' => e = .returned (.tuple #[tl 0 0 0, sen (a 4)]) ∧ Nw w w' := by
  by_cases hm : may L I
  · obtain ⟨Y, hY⟩ : ∃ Y, Y = (I + 1) * 2 ^ L := ⟨_, rfl⟩
    obtain ⟨X, hX⟩ : ∃ X, X = I * 2 ^ L := ⟨_, rfl⟩
    have QS : Hid (∀ V, Calls Tryz.prog 185 #[cd L I] V fun e w' => e = .returned (.tuple #[sp X Y, .bool true]) ∧ Nw V w') := fun V => by rw [hY, hX]; exact span_yes L I hm V
    have hYS : ¬ Y ≤ S := fun q => h ⟨hm, by rw [← hY]; exact q⟩
    have hle : (S : Int) < (Y : Int) := by omega
    have HS : Hid (Sent B w a) := hSe
    clear hY hX h hm hSe
    go_enter Tryz.func165, Tryz.ntmps165
    go_wp2_with fail
    refine (QS.out _).mono ?_
    rintro e w1 ⟨rfl, n1⟩
    obtain ⟨⟨l0, l1⟩, b0, b1, n2⟩ := two_made n1
    obtain ⟨f0, f1, f2⟩ := cell3 b1
    have y0 := frozen_of b1 0
    have y1 := frozen_of b1 1
    have y2 := frozen_of b1 2
    have hc := (HS.out.fr n2 (fun _ _ f => f)).c4
    have hc0 : 4 < w1.heap.size := World.block_lt_of_cell? _ _ hc
    have hc9 : 4 < w.heap.size := World.block_lt_of_cell? _ _ HS.out.c4
    have hne : ¬ 4 = w.heap.size + 1 := by omega
    have hne2 : ¬ w.heap.size + 1 = 4 := by omega
    clear n1
    go_wp2
    go_region
    all_goals
      go_wp2
      (refine bodyPost_ret (results_cell_slot (V := #[.int .u8 0, .int .u64 0, .int .i64 0]) (ty := 120) (f := (0, 0)) Tryz.results165 Tryz.isAgg120 Tryz.sizeOf120 rfl _ rfl ?_ rfl) rfl ⟨rfl, (by repeat first | with_reducible exact n2 | with_reducible refine Fr.alloc ?_ _ | with_reducible refine Fr.drew ?_ | (with_reducible refine Fr.setCell ?_ _ _ (fun h => ?_); rotate_left; focus (simp only at h; omega)))⟩; (repeat first | with_reducible exact b1 | with_reducible exact heap_new _ _ | with_reducible exact heap_next _ _ _ | with_reducible exact heap_third _ _ _ _ | with_reducible refine hp_dr ?_ | (with_reducible refine hp_ne ?_ ?_; focus omega) | (with_reducible refine hp_al ?_ ?_; focus (first | omega | (simp <;> omega))) | with_reducible apply hp_set) <;> rfl)
  · have QS : Hid (∀ V, Calls Tryz.prog 185 #[cd L I] V fun e w' => e = .returned (.tuple #[sp 0 0, .bool false]) ∧ Nw V w') := fun V => span_no L I hm hL hI V
    have HS : Hid (Sent B w a) := hSe
    clear h hm hSe
    go_enter Tryz.func165, Tryz.ntmps165
    go_wp2_with fail
    refine (QS.out _).mono ?_
    rintro e w1 ⟨rfl, n1⟩
    obtain ⟨⟨l0, l1⟩, b0, b1, n2⟩ := two_made n1
    obtain ⟨f0, f1, f2⟩ := cell3 b1
    have y0 := frozen_of b1 0
    have y1 := frozen_of b1 1
    have y2 := frozen_of b1 2
    have hc := (HS.out.fr n2 (fun _ _ f => f)).c4
    have hc0 : 4 < w1.heap.size := World.block_lt_of_cell? _ _ hc
    have hc9 : 4 < w.heap.size := World.block_lt_of_cell? _ _ HS.out.c4
    have hne : ¬ 4 = w.heap.size + 1 := by omega
    have hne2 : ¬ w.heap.size + 1 = 4 := by omega
    clear n1
    go_wp2
    go_region
    all_goals
      go_wp2
      (refine bodyPost_ret (results_cell_slot (V := #[.int .u8 0, .int .u64 0, .int .i64 0]) (ty := 120) (f := (0, 0)) Tryz.results165 Tryz.isAgg120 Tryz.sizeOf120 rfl _ rfl ?_ rfl) rfl ⟨rfl, (by repeat first | with_reducible exact n2 | with_reducible refine Fr.alloc ?_ _ | with_reducible refine Fr.drew ?_ | (with_reducible refine Fr.setCell ?_ _ _ (fun h => ?_); rotate_left; focus (simp only at h; omega)))⟩; (repeat first | with_reducible exact b1 | with_reducible exact heap_new _ _ | with_reducible exact heap_next _ _ _ | with_reducible exact heap_third _ _ _ _ | with_reducible refine hp_dr ?_ | (with_reducible refine hp_ne ?_ ?_; focus omega) | (with_reducible refine hp_al ?_ ?_; focus (first | omega | (simp <;> omega))) | with_reducible apply hp_set) <;> rfl)
end Go.Proofs.YtjkhcplnedcmeaaGreatDoor
